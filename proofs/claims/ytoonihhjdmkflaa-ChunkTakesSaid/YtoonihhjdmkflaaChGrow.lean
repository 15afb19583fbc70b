/- A chunk under way: its variable, and the growing row of its children. No condition. -/
import Derived.Test.YtoonihhjdmkflaaChKid
namespace Go.Proofs.Ytoonihhjdmkflaa
open Go.RowKit

theorem own_shapeN {w : World} {base : Nat} {e : TypeId} {size n : Nat} {v : Value} {xs : List Value} (h : w.ownsRow base e size v n xs) : ∃ A c, v = .slice A n c := by
  rcases h.2 with ⟨rfl, h2⟩ | ⟨g, cap, cur, rfl, _⟩
  · exact ⟨none, 0, by rw [h2]⟩
  · exact ⟨some ⟨g, 0, none⟩, cap, rfl⟩
theorem own_cap {w : World} {base : Nat} {t : TypeId} {size : Nat} {A : Option Addr} {n c : Nat} {xs : List Value} (h : w.ownsRow base t size (.slice A n c) n xs) : n ≤ c ∧ c ≤ maxLen := by
  rcases h.2 with ⟨e, h0⟩ | ⟨g, cap, cur, e, _, _, h1, h2, _⟩
  · cases e
    exact ⟨by omega, by simp [maxLen]⟩
  · cases e
    exact ⟨h1, h2⟩
theorem infoKid : ∃ i z, Try.prog.info? 46 = some i ∧ i.zero = some z ∧ i.size = 36 ∧ i.bytes = 56 ∧ z.cells.size = 36 := by
  have h : (Try.prog.info? 46).map (fun i => (i.zero.map (·.cells.size), i.size, i.bytes)) = some (some 36, 36, 56) := by kernel_rfl
  cases hq : Try.prog.info? 46 with
  | none => rw [hq] at h; cases h
  | some i =>
    rw [hq] at h
    simp only [Option.map_some, Option.some.injEq, Prod.mk.injEq] at h
    cases hz : i.zero with
    | none => rw [hz] at h; cases h.1
    | some z =>
      rw [hz] at h
      exact ⟨i, z, rfl, hz, h.2.1, h.2.2, by simpa using h.1⟩
/-- A chunk under way: types tc, tk. -/
structure Cg (tc tk : TypeId) (B : Nat) (v : World) (g kind : Nat) (data : ByteArray) (vs : Value) (ks : List Kd) : Prop where
  box : Box v g tc #[.int .u8 kind, .string data, vs]
  row : v.ownsRow 0 tk 36 vs ks.length (kss ks)
  nb : B ≤ g
  nr : ∀ q, vs.ownBlock = some q → B ≤ q
  ok : ∀ k ∈ ks, k.Ok
  ne : tk ≠ tc
def CX (g : Nat) (vs : Value) (q : Nat) : Prop := q = g ∨ vs.ownBlock = some q
section
variable {tc tk : TypeId} {B : Nat} {v v' : World} {g kind : Nat} {data : ByteArray} {vs vs' : Value} {ks : List Kd} {S : Nat → Prop}
theorem Cg.bt (h : Cg tc tk B v g kind data vs ks) : ∃ cs fr, v.heap[g]? = some (.cells cs tc fr) := ⟨_, _, h.box⟩
theorem Cg.bg (h : Cg tc tk B v g kind data vs ks) : vs.ownBlock ≠ some g := fun e => h.ne (type_no (own_ltt h.row e).2 h.bt)
theorem Cg.lt (h : Cg tc tk B v g kind data vs ks) : ∀ q, CX g vs q → q < v.heap.size := by
  rintro q (rfl | e)
  · exact h.box.lt
  · exact (own_ltt h.row e).1
theorem Cg.ge (h : Cg tc tk B v g kind data vs ks) : ∀ q, CX g vs q → B ≤ q := by
  rintro q (rfl | e)
  · exact h.nb
  · exact h.nr q e
theorem Cg.kp (h : Cg tc tk B v g kind data vs ks) (hk : Kp S v v') (hS : ∀ q, S q → ¬ CX g vs q) : Cg tc tk B v' g kind data vs ks :=
  ⟨h.box.kp hk fun e => hS _ e (.inl rfl), nown_kp h.row hk fun q e hs => hS q hs (.inr e), h.nb, h.nr, h.ok, h.ne⟩
theorem Cg.still (h : Cg tc tk B v g kind data vs ks) (hk : Kp (fun _ => False) v v') : Cg tc tk B v' g kind data vs ks := h.kp hk fun _ e => e.elim
/-- A child behind the others. -/
theorem Cg.app (h : Cg tc tk B v g kind data vs ks) (hB : B ≤ v.heap.size) (x : Kd) (hx : x.Ok) (ho : v'.ownsRow 0 tk 36 vs' (ks.length + 1) (kss ks ++ kcs x)) (hg : v.grownBy v' vs.ownBlock) (ha : vs'.ownBlock = vs.ownBlock ∨ vs'.ownBlock = some v.heap.size) :
    Cg tc tk B (v'.setCell ⟨g, 2, none⟩ vs') g kind data vs' (ks ++ [x]) ∧ Kp (CX g vs) v (v'.setCell ⟨g, 2, none⟩ vs') ∧ (∀ q, CX g vs' q → CX g vs q ∨ v.heap.size ≤ q) := by
  have hk := grown_kp hg
  have hb1 := h.box.kp hk h.bg
  have hvb : ∀ q, vs'.ownBlock = some q → q ≠ g := by
    rintro q e rfl
    rcases ha with e1 | e1
    · exact h.bg (e1 ▸ e)
    · rw [e1] at e
      cases e
      exact Nat.lt_irrefl _ h.box.lt
  refine ⟨⟨?_, ?_, h.nb, fun q e => ?_, fun k hk => ?_, h.ne⟩, ?_, ?_⟩
  · simpa using hb1.put 2 vs'
  · have := nown_kp ho (Kp.one v' g 2 vs') fun q e hq => hvb q e hq
    rw [List.length_append, List.length_singleton, kss_snoc]
    exact this
  · rcases ha with e1 | e1
    · exact h.nr q (e1 ▸ e)
    · rw [e1] at e
      cases e
      exact hB
  · rcases List.mem_append.1 hk with hk | hk
    · exact h.ok k hk
    · rw [List.mem_singleton] at hk
      rw [hk]
      exact hx
  · exact (hk.mono fun q _ e => .inr e).setCell (.inr (.inl rfl)) vs'
  · rintro q (e | e)
    · exact .inl (.inl e)
    · rcases ha with e1 | e1
      · exact .inl (.inr (e1 ▸ e))
      · rw [e1] at e
        cases e
        exact .inr (Nat.le_refl _)
/-- The chunk that was made. -/
theorem Cg.chunk (h : Cg tc tk B v g kind data vs ks) (hk : kind < 256) : ∃ A n, (#[.int .u8 kind, .string data, vs] : Array Value) = ccs ⟨kind, data, ks⟩ A n ∧ CkR v ⟨kind, data, ks⟩ A n := by
  obtain ⟨A, n, rfl⟩ := own_shapeN h.row
  exact ⟨A, n, rfl, .of_own h.row h.ok, ⟨hk, h.ok⟩, (own_cap h.row).1, (own_cap h.row).2⟩
theorem Cg.new (tc tk : TypeId) (hne : tk ≠ tc) {B : Nat} {v : World} {g kind : Nat} {data : ByteArray} (hb : Box v g tc #[.int .u8 kind, .string data, .slice none 0 0]) (hB : B ≤ g) : Cg tc tk B v g kind data (.slice none 0 0) [] :=
  ⟨hb, World.ownsRow_nil _ _ _ _, hB, (fun _ e => by cases e), (fun _ e => by cases e), hne⟩
end
theorem cx_nil {g q : Nat} (h : CX g (.slice none 0 0) q) : q = g := by
  rcases h with h | h
  · exact h
  · cases h
end Go.Proofs.Ytoonihhjdmkflaa
