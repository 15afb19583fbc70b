/- A disk: what the document says of it, and how it lies in memory. No condition. -/
import Derived.Test.YtfcljcikajaedaaDoorMg1
import Derived.Test.YtfcljcikajaedaaDoorChecked
import Derived.Maps.OwnSet
import Derived.StillTailTactics
import Derived.Deep.RegionHeld3
import Derived.Deep.AppendLies
import Derived.Deep.RegionLaw
import Derived.IntWalk
namespace Go.Proofs.YtfcljcikajaedaaDoor
open Go.RowKit Go.Maps Go.ChangeMaps Go.MapKept Go.WideShapes

theorem snoc_ind {α : Type} {P : List α → Prop} (h0 : P []) (h1 : ∀ l x, P l → P (l ++ [x])) (l : List α) : P l := by
  have h : ∀ r : List α, P r.reverse := fun r => by
    induction r with
    | nil => exact h0
    | cons x r ih => rw [List.reverse_cons]; exact h1 _ _ ih
  simpa using h l.reverse
/-- A disk, in the document's words. -/
structure Dm where
  on : List (List UInt8)
  wait : List (Nat × List UInt8)
  power : Bool
  lit : Bool
  left : Nat
  keep : List UInt8
  acts : Nat

/-- The writes reach the disk, by whose place it is told so. -/
def settleL (f : Nat → Bool) (on : List (List UInt8)) (l : List (Nat × List UInt8)) : List (List UInt8) :=
  l.zipIdx.foldl (fun o x => if f x.2 then o.set x.1.1 x.1.2 else o) on
theorem settleL_nil (f : Nat → Bool) (on : List (List UInt8)) : settleL f on [] = on := rfl
theorem settleL_snoc (f : Nat → Bool) (on : List (List UInt8)) (l : List (Nat × List UInt8)) (x : Nat × List UInt8) :
    settleL f on (l ++ [x]) = if f l.length then (settleL f on l).set x.1 x.2 else settleL f on l := by
  simp [settleL, List.zipIdx_append]
theorem settleL_length (f : Nat → Bool) (on : List (List UInt8)) (l : List (Nat × List UInt8)) : (settleL f on l).length = on.length := by
  induction l using snoc_ind with
  | h0 => rfl
  | h1 l x ih => rw [settleL_snoc]; split <;> simp [ih]
theorem settleL_each (f : Nat → Bool) (on : List (List UInt8)) (l : List (Nat × List UInt8)) (n : Nat) (h : ∀ s ∈ on, s.length = n) (hl : ∀ x ∈ l, x.2.length = n) : ∀ s ∈ settleL f on l, s.length = n := by
  induction l using snoc_ind with
  | h0 => exact h
  | h1 l x ih =>
    have ih' := ih fun y hy => hl y (by simp [hy])
    rw [settleL_snoc]
    split
    · intro s hs
      rcases List.mem_or_eq_of_mem_set hs with hs | rfl
      · exact ih' s hs
      · exact hl x (by simp)
    · exact ih'

/-- The bit i of a text. -/
def bitOf (k : List UInt8) (i : Nat) : Bool := i / 8 < k.length && (k.getD (i / 8) 0).toNat / 2 ^ (i % 8) % 2 == 1

/-- The power goes. -/
def Dm.lose (d : Dm) (k : List UInt8) : Dm := { d with on := settleL (bitOf k) d.on d.wait, wait := [], power := false, lit := false, left := 0, keep := [] }
/-- All that waits reaches the disk. -/
def Dm.all (d : Dm) : Dm := { d with on := settleL (fun _ => true) d.on d.wait, wait := [] }
/-- An act is counted. -/
def Dm.act (d : Dm) : Dm := { d with left := if d.lit then d.left - 1 else d.left, acts := (d.acts + 1) % 18446744073709551616 }
/-- No act is left. -/
def Dm.out (d : Dm) : Bool := d.lit && d.left == 0
/-- What may be. -/
structure Dm.ok (d : Dm) : Prop where
  few : d.on.length ≤ 4096
  some : 1 ≤ d.on.length
  each : ∀ s ∈ d.on, s.length = 512
  at_ : ∀ x ∈ d.wait, x.1 < d.on.length
  long : ∀ x ∈ d.wait, x.2.length = 512
  waits : d.wait.length < 1073741824
  left_ : d.left < 9223372036854775808
  acts_ : d.acts < 18446744073709551616
  keep_ : d.keep.length ≤ maxLen

/-- The last write to a sector that waits. -/
def lastOf (l : List (Nat × List UInt8)) (at_ : Nat) : Option Nat := l.zipIdx.foldl (fun o x => if x.1.1 = at_ then some x.2 else o) none
theorem lastOf_snoc (l : List (Nat × List UInt8)) (x : Nat × List UInt8) (at_ : Nat) : lastOf (l ++ [x]) at_ = if x.1 = at_ then some l.length else lastOf l at_ := by
  simp [lastOf, List.zipIdx_append]
theorem lastOf_get (l : List (Nat × List UInt8)) (at_ : Nat) : ∀ i, lastOf l at_ = some i → ∃ b, l[i]? = some (at_, b) := by
  induction l using snoc_ind with
  | h0 => intro i h; simp [lastOf] at h
  | h1 l x ih =>
    intro i h
    rw [lastOf_snoc] at h
    split at h
    · next hx =>
      cases h
      exact ⟨x.2, by simp [← hx]⟩
    · obtain ⟨b, hb⟩ := ih i h
      exact ⟨b, by rw [List.getElem?_append_left (List.getElem?_eq_some_iff.1 hb).1]; exact hb⟩

/-- The cells of sectors, and of writes that wait. -/
def onCells (l : List (List UInt8)) : List Value := l.flatMap bcs
def waitCells (l : List (Nat × List UInt8)) : List Value := l.flatMap fun x => bcs x.2 ++ [.int .i64 x.1]

/-- The map of the newest writes. -/
def Nm (w : World) (g : Nat) (l : List (Nat × List UInt8)) : Prop :=
  ∃ n, ∃ D : DataW Unit, w.ownsMap Tryd.prog 3 (plainElem Tryd.prog 3) g n D ∧ n ≤ l.length ∧
    ∀ a : Nat, has D (.int .i64 (a : Int)) = (lastOf l a).isSome ∧ ∀ i, lastOf l a = some i → D.atKey (.int .i64 (a : Int)) (.lit (.int .i64 0)) = .lit (.int .i64 (i : Int))

/-- The cells of a disk. -/
def dcs (d : Dm) (vs vw : Value) (gm : Nat) : Array Value := #[vs, vw, .map (some gm), .bool d.power, .bool d.lit, .int .i64 d.left, .string ⟨d.keep.toArray⟩, .int .u64 d.acts]

/-- A disk lies at block b; its blocks are those of F. -/
structure Dk (w : World) (b : Nat) (vs vw : Value) (gm : Nat) (d : Dm) : Prop where
  ok : d.ok
  box : Box w b 62 (dcs d vs vw gm)
  st : w.ownsRow 0 91 512 vs d.on.length (onCells d.on)
  wt : w.ownsRow 0 94 513 vw d.wait.length (waitCells d.wait)
  nm : Nm w gm d.wait
/-- The blocks of a disk. -/
def Ft (b : Nat) (vs vw : Value) (gm k : Nat) : Prop := k = b ∨ vs.ownBlock = some k ∨ vw.ownBlock = some k ∨ k = gm
/-- A disk, whose blocks are those of F. -/
def Dsk (F : Nat → Prop) (w : World) (b : Nat) (d : Dm) : Prop := ∃ vs vw gm, Dk w b vs vw gm d ∧ ∀ k, Ft b vs vw gm k → F k

theorem infoSec : (Tryd.prog.info? 91).map (·.size) = some 512 := by kernel_rfl
theorem infoWr : (Tryd.prog.info? 94).map (·.size) = some 513 := by kernel_rfl
theorem keyedI : Keyed Tryd.prog 3 := int_keyed Tryd.underlying3
theorem zeroI (w : World) : (zeroValue 3).run Tryd.prog w = .ok (.int .i64 0) w := by kernel_rfl

theorem Nm.kp {S : Nat → Prop} {w w' : World} {g : Nat} {l : List (Nat × List UInt8)} (h : Nm w g l) (hk : Kp S w w') (hn : ¬ S g) : Nm w' g l := by
  obtain ⟨n, D, ho, r⟩ := h
  have hlt := ho.lt
  obtain ⟨es, clock, hb, r2⟩ := ho
  exact ⟨n, D, ⟨es, clock, (hk.block g hlt hn).trans hb, r2⟩, r⟩
theorem Nm.lt {w : World} {g : Nat} {l : List (Nat × List UInt8)} (h : Nm w g l) : g < w.heap.size := by
  obtain ⟨n, D, ho, r⟩ := h
  exact ho.lt
theorem down_kp {S : Nat → Prop} {w w' : World} {base : Nat} {e : TypeId} {size n : Nat} {v : Value} {xs : List Value} (h : w.ownsRow base e size v n xs) (hk : Kp S w w') (hn : ∀ k, v.ownBlock = some k → ¬ S k) : w'.ownsRow base e size v n xs := by
  refine ⟨h.1, ?_⟩
  rcases h.2 with hn | ⟨g, cap, cur, rfl, hb, hgg, rest⟩
  · exact .inl hn
  · exact .inr ⟨g, cap, cur, rfl, hb, (hk.block g (Array.getElem?_eq_some_iff.1 hgg).1 (hn g rfl)).trans hgg, rest⟩
theorem Dk.kp {S : Nat → Prop} {w w' : World} {b : Nat} {vs vw : Value} {gm : Nat} {d : Dm} (h : Dk w b vs vw gm d) (hk : Kp S w w') (hn : ∀ k, Ft b vs vw gm k → ¬ S k) : Dk w' b vs vw gm d :=
  ⟨h.ok, h.box.kp hk (hn b (.inl rfl)), down_kp h.st hk (fun k e => hn k (.inr (.inl e))), down_kp h.wt hk (fun k e => hn k (.inr (.inr (.inl e)))), h.nm.kp hk (hn gm (.inr (.inr (.inr rfl))))⟩
theorem Dk.lt {w : World} {b : Nat} {vs vw : Value} {gm : Nat} {d : Dm} (h : Dk w b vs vw gm d) : ∀ k, Ft b vs vw gm k → k < w.heap.size := by
  rintro k (rfl | e | e | rfl)
  · exact h.box.lt
  · exact (h.st.lt k e).2
  · exact (h.wt.lt k e).2
  · exact h.nm.lt
theorem Dsk.kp {F S : Nat → Prop} {w w' : World} {b : Nat} {d : Dm} (h : Dsk F w b d) (hk : Kp S w w') (hn : ∀ k, F k → ¬ S k) : Dsk F w' b d := by
  obtain ⟨vs, vw, gm, h1, h2⟩ := h
  exact ⟨vs, vw, gm, h1.kp hk fun k hf => hn k (h2 k hf), h2⟩
theorem Dsk.mono {F F' : Nat → Prop} {w : World} {b : Nat} {d : Dm} (h : Dsk F w b d) (hF : ∀ k, F k → F' k) : Dsk F' w b d := by
  obtain ⟨vs, vw, gm, h1, h2⟩ := h
  exact ⟨vs, vw, gm, h1, fun k hk => hF k (h2 k hk)⟩
/-- The blocks of one disk are apart. -/
theorem Dk.apart {w : World} {b : Nat} {vs vw : Value} {gm : Nat} {d : Dm} (h : Dk w b vs vw gm d) : vs.ownBlock ≠ some b ∧ vw.ownBlock ≠ some b ∧ gm ≠ b ∧ vs.ownBlock ≠ some gm ∧ vw.ownBlock ≠ some gm ∧ (∀ k, vs.ownBlock = some k → vw.ownBlock ≠ some k) := by
  have hb := h.box
  obtain ⟨n, D, ⟨es, clock, hm, _⟩, _⟩ := h.nm
  have key : ∀ {e : TypeId} {size n : Nat} {v : Value} {xs : List Value} {k : Nat}, w.ownsRow 0 e size v n xs → v.ownBlock = some k → ∃ cur, w.heap[k]? = some (.cells cur e (0, 0)) := by
    intro e size n v xs k ho hk
    rcases ho.2 with ⟨rfl, _⟩ | ⟨g', cap, cur, rfl, _, hh, _⟩
    · simp [Value.ownBlock] at hk
    · simp [Value.ownBlock] at hk; subst hk; exact ⟨cur, hh⟩
  have hgb : gm ≠ b := by rintro rfl; unfold Box at hb; rw [hb] at hm; cases hm
  refine ⟨fun e => ?_, fun e => ?_, hgb, fun e => ?_, fun e => ?_, fun k e1 e2 => ?_⟩
  · obtain ⟨cur, hc⟩ := key h.st e
    exact Box.type_ne (t := 91) hc hb (by decide) rfl
  · obtain ⟨cur, hc⟩ := key h.wt e
    exact Box.type_ne (t := 94) hc hb (by decide) rfl
  · obtain ⟨cur, hc⟩ := key h.st e; rw [hc] at hm; cases hm
  · obtain ⟨cur, hc⟩ := key h.wt e; rw [hc] at hm; cases hm
  · obtain ⟨cur, hc⟩ := key h.st e1
    obtain ⟨cur', hc'⟩ := key h.wt e2
    exact Box.type_ne (t := 91) (t' := 94) hc hc' (by decide) rfl
/-- The map is emptied. -/
theorem Nm.clear {w : World} {g : Nat} {l : List (Nat × List UInt8)} (h : Nm w g l) (ty : TypeId) :
    ∃ w', (Builtin.clear_ #[57] ty #[.map (some g)]).run Tryd.prog w = .ok (.tuple #[]) w' ∧ Nm w' g [] ∧ Kp (fun k => k = g) w w' := by
  obtain ⟨n, D, ⟨es, clock, hb, F, hs, hD⟩, hn, hl⟩ := h
  refine ⟨setBlock w g (.map #[] clock), ?_, ⟨0, .map [], ⟨#[], clock, heap_setBlock_same hb _, ?_, Nat.le_refl _, rfl⟩, Nat.zero_le _, fun a => ⟨rfl, fun i hi => by simp [lastOf] at hi⟩⟩, ?_⟩
  · simp [Builtin.clear_, run_underlying Tryd.underlying57, MapKept.run_getObj_map hb, MapKept.run_setObj_map _ hb, Result.andThen]
    rfl
  · exact ⟨by simp, MapKept.stamped_empty clock, by simp⟩
  · exact ⟨rfl, rfl, rfl, by simp [setBlock], fun k _ hk => heap_setBlock_other hb _ hk⟩
theorem wpList_clear {w : World} {ops : Array Oper} {rest : List Oper} {o : Oper} {a : Act} {Q : Exit → Act → World → Prop} (hgd : o.guard = none) (x : Operand)
    (ho : o.op = .call { callee := .builtin .clear, args := #[x], argTypes := #[57] }) (g : Nat) (l : List (Nat × List UInt8)) (hx : a.eval x = .map (some g)) (h : Nm w g l)
    (hh : ∀ w', Nm w' g [] → Kp (fun k => k = g) w w' → wpList Tryd.prog ops Q rest (a.put o.dst (.tuple #[])) w') : wpList Tryd.prog ops Q (o :: rest) a w :=
  wpList_plain hgd fun _ hK => by
    obtain ⟨w', hrun, h2, h3⟩ := h.clear o.type
    unfold Oper.wp execOp
    simp only [ho, resolve, invoke, builtin, Sem.run_bind, Sem.run_pure, Result.andThen_ok, List.map_toArray, List.map_cons, List.map_nil, hx, hrun]
    exact hK _ _ (hh w' h2 h3)

end Go.Proofs.YtfcljcikajaedaaDoor
