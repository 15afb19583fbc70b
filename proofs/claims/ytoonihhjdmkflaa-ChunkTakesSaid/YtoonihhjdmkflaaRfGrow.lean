/- The document's own reader of a chunk under way. No condition. -/
import Derived.Test.YtoonihhjdmkflaaChGrow
import Derived.Test.YtoonihhjdmkflaaRfKid
import Derived.Test.YtoonihhjdmkflaaRfMath
namespace Go.Proofs.Ytoonihhjdmkflaa
open Go.RowKit

theorem zRCk : ZeroN Try.prog 32 3 := by unfold ZeroN; kernel_rfl
theorem infoRKid : ∃ i z, Try.prog.info? 58 = some i ∧ i.zero = some z ∧ i.size = 36 ∧ i.bytes = 56 ∧ z.cells.size = 36 := by
  have h : (Try.prog.info? 58).map (fun i => (i.zero.map (·.cells.size), i.size, i.bytes)) = some (some 36, 36, 56) := by kernel_rfl
  cases hq : Try.prog.info? 58 with
  | none => rw [hq] at h; cases h
  | some i =>
    rw [hq] at h
    simp only [Option.map_some, Option.some.injEq, Prod.mk.injEq] at h
    cases hz : i.zero with
    | none => rw [hz] at h; cases h.1
    | some z =>
      rw [hz] at h
      exact ⟨i, z, rfl, hz, h.2.1, h.2.2, by simpa using h.1⟩
/-- Boxes of two types are two. -/
theorem box_no {v : World} {q : Nat} {t t' : TypeId} {cs cs' : Array Value} (h : Box v q t cs) (h' : Box v q t' cs') : t = t' := type_no ⟨_, _, h⟩ ⟨_, _, h'⟩

/-- The chunk, the opener and the result under way. -/
structure Ru (w v : World) (g g5 kind : Nat) (data : ByteArray) (vs : Value) (ks : List Kd) (s : List UInt8 × Bool) : Prop where
  c : Cg 32 58 (w.heap.size + 1) v g kind data vs ks
  o : Box v g5 55 (ocs s)
  r : Box v w.heap.size 32 (ccs ck0 none 0)
  kp : Kp (fun _ => False) w v
  ln : s.1.length ≤ 600
  lo : w.heap.size < g5
section
variable {w v v' : World} {g g5 kind : Nat} {data : ByteArray} {vs vs' : Value} {ks : List Kd} {s s' : List UInt8 × Bool} {g8 : Nat} {k k' : Kd}
theorem Ru.cx (h : Ru w v g g5 kind data vs ks s) : ¬ CX g vs g5 := by
  rintro (e | e)
  · subst e
    exact absurd (box_no h.o h.c.box) (by decide)
  · exact absurd (type_no ⟨_, _, h.o⟩ (own_ltt h.c.row e).2) (by decide)
theorem Ru.still (h : Ru w v g g5 kind data vs ks s) (hk : Kp (fun _ => False) v v') : Ru w v' g g5 kind data vs ks s :=
  ⟨h.c.still hk, h.o.kp hk (fun e => e), h.r.kp hk (fun e => e), h.kp.trans hk, h.ln, h.lo⟩
theorem Ru.setOp (h : Ru w v g g5 kind data vs ks s) (hb : Box v' g5 55 (ocs s')) (hk : Kp (fun q => q = g5) v v') (hl : s'.1.length ≤ 600) : Ru w v' g g5 kind data vs ks s' :=
  ⟨h.c.kp hk (fun q e x => h.cx (e ▸ x)), hb, h.r.kp hk (fun e => by have := h.lo; omega), h.kp.trans_new hk (fun q e => .inl (by have := h.lo; omega)), hl, h.lo⟩
/-- And a child's variable. -/
structure Rk (w v : World) (g g5 g8 kind : Nat) (data : ByteArray) (vs : Value) (ks : List Kd) (s : List UInt8 × Bool) (k : Kd) : Prop where
  u : Ru w v g g5 kind data vs ks s
  x : Box v g8 58 (kcs k).toArray
  ok : k.Ok
  ab : ∀ q, CX g vs q → q < g8
  lo : w.heap.size < g8
theorem Ru.kid (h : Ru w v g g5 kind data vs ks s) (hb : Box v' g8 58 (kcs k).toArray) (ok : k.Ok) (hg : v.heap.size ≤ g8) (hk : Kp (fun _ => False) v v') : Rk w v' g g5 g8 kind data vs ks s k :=
  ⟨h.still hk, hb, ok, fun q e => by have := h.c.lt q e; omega, by have := h.r.lt; omega⟩
theorem Rk.still (h : Rk w v g g5 g8 kind data vs ks s k) (hk : Kp (fun _ => False) v v') : Rk w v' g g5 g8 kind data vs ks s k :=
  ⟨h.u.still hk, h.x.kp hk (fun e => e), h.ok, h.ab, h.lo⟩
theorem Rk.setOp (h : Rk w v g g5 g8 kind data vs ks s k) (hb : Box v' g5 55 (ocs s')) (hk : Kp (fun q => q = g5) v v') (hl : s'.1.length ≤ 600) : Rk w v' g g5 g8 kind data vs ks s' k :=
  ⟨h.u.setOp hb hk hl, h.x.kp hk (fun e => by subst e; exact absurd (box_no h.u.o h.x) (by decide)), h.ok, h.ab, h.lo⟩
theorem Rk.turn (h : Rk w v g g5 g8 kind data vs ks s k) (hk : Kp (fun q => q = g8) v v') (hx : Box v' g8 58 (kcs k').toArray) (ok : k'.Ok) : Rk w v' g g5 g8 kind data vs ks s k' :=
  ⟨⟨h.u.c.kp hk (fun q e x => by have := h.ab q x; omega), h.u.o.kp hk (fun e => by subst e; exact absurd (box_no h.u.o h.x) (by decide)), h.u.r.kp hk (fun e => by have := h.lo; omega), h.u.kp.trans_new hk (fun q e => .inl (by have := h.lo; omega)), h.u.ln, h.u.lo⟩, hx, ok, h.ab, h.lo⟩
theorem Rk.setDir (h : Rk w v g g5 g8 kind data vs ks s k) (d : Bool) : Rk w (v.setCell ⟨g8, 1, none⟩ (.bool d)) g g5 g8 kind data vs ks s { k with dir := d } :=
  h.turn (Kp.one _ _ _ _) (by rw [← kcs_setDir]; exact h.x.put 1 _) h.ok
theorem Rk.setName (h : Rk w v g g5 g8 kind data vs ks s k) (d : ByteArray) : Rk w (v.setCell ⟨g8, 0, none⟩ (.string d)) g g5 g8 kind data vs ks s { k with name := d } :=
  h.turn (Kp.one _ _ _ _) (by rw [← kcs_setName]; exact h.x.put 0 _) h.ok
theorem Rk.setHt (h : Rk w v g g5 g8 kind data vs ks s k) (d : Nat) (hd : d < 256) : Rk w (v.setCell ⟨g8, 34, none⟩ (.int .u8 d)) g g5 g8 kind data vs ks s { k with ht := d } :=
  h.turn (Kp.one _ _ _ _) (by rw [← kcs_setHt k h.ok.1]; exact h.x.put 34 _) ⟨h.ok.1, hd, h.ok.2.2⟩
theorem Rk.setSz (h : Rk w v g g5 g8 kind data vs ks s k) (d : Nat) (hd : d < 4294967296) : Rk w (v.setCell ⟨g8, 35, none⟩ (.int .u32 d)) g g5 g8 kind data vs ks s { k with sz := d } :=
  h.turn (Kp.one _ _ _ _) (by rw [← kcs_setSz k h.ok.1]; exact h.x.put 35 _) ⟨h.ok.1, h.ok.2.1, hd⟩
theorem Rk.app (h : Rk w v g g5 g8 kind data vs ks s k) (x : Kd) (hx : x.Ok) (ho : v'.ownsRow 0 58 36 vs' (ks.length + 1) (kss ks ++ kcs x)) (hg : v.grownBy v' vs.ownBlock) (ha : vs'.ownBlock = vs.ownBlock ∨ vs'.ownBlock = some v.heap.size) :
    Ru w (v'.setCell ⟨g, 2, none⟩ vs') g g5 kind data vs' (ks ++ [x]) s := by
  have hB : w.heap.size + 1 ≤ v.heap.size := h.u.r.lt
  obtain ⟨h1, h2, h3⟩ := h.u.c.app hB x hx ho hg ha
  exact ⟨h1, h.u.o.kp h2 h.u.cx, h.u.r.kp h2 (fun e => by have := h.u.c.ge _ e; omega), h.u.kp.trans_new h2 (fun q e => .inl (by have := h.u.c.ge _ e; omega)), h.u.ln, h.u.lo⟩
end
end Go.Proofs.Ytoonihhjdmkflaa
