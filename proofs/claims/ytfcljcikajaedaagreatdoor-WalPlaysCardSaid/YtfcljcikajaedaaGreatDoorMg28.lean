/- Sheets in memory, put together and compared: what texts and slices.Equal answer. Condition: at most 2^20 sheets. -/
import Derived.Test.YtfcljcikajaedaaGreatDoorMg25
import Derived.Test.YtfcljcikajaedaaGreatDoorMg4
import Derived.Test.YtfcljcikajaedaaGreatDoorMg2
import Derived.Laws.StructEq
import Derived.Shelf.SlicesE.Equal
namespace Go.Proofs.YtfcljcikajaedaaGreatDoor
open Go.RowKit

/-- A slice at the address A reads as these sheets. -/
def RdS (w : World) (A : Option Addr) (l : List Sh) : Prop :=
  l = [] ∨ ∃ b o, A = some ⟨b, o, none⟩ ∧ ∀ j v, (rowS l)[j]? = some v → w.cell? ⟨b, o + j, none⟩ = some v
theorem rowS_get (l : List Sh) (k : Nat) (h : k < l.length) (i : Nat) (hi : i < 3) : (rowS l)[3 * k + i]? = (cells3 l[k])[i]? := by
  induction l generalizing k with
  | nil => simp at h
  | cons s l ih =>
    show ((cells3 s).toList ++ rowS l)[3 * k + i]? = _
    have hl : (cells3 s).toList.length = 3 := rfl
    rcases k with _ | k
    · rw [List.getElem?_append_left (by rw [hl]; omega)]
      simp
    · rw [List.getElem?_append_right (by rw [hl]; omega), hl, show 3 * (k + 1) + i - 3 = 3 * k + i by omega, ih k (by simpa using h)]
      simp
theorem RdS.kp {S : Nat → Prop} {w w' : World} {A : Option Addr} {l : List Sh} (h : RdS w A l) (hk : Kp S w w') (hn : ∀ a, A = some a → ¬ S a.block) : RdS w' A l := by
  rcases h with h | ⟨b, o, rfl, hc⟩
  · exact .inl h
  · exact .inr ⟨b, o, rfl, fun j v hv => (hk.cell (p := ⟨b, o + j, none⟩) (World.block_lt_of_cell? w ⟨b, o + j, none⟩ (hc j v hv)) (hn ⟨b, o, none⟩ rfl)).trans (hc j v hv)⟩
theorem RdS.of_own {w : World} {base : Nat} {e : TypeId} {A : Option Addr} {n c : Nat} {l : List Sh} (h : w.ownsRow base e 3 (.slice A n c) n (rowS l)) : RdS w A l := by
  rcases h.2 with ⟨h1, h2⟩ | ⟨g, cap, cur, hv, _⟩
  · left
    have := h.1
    rw [rowS_length] at this
    exact List.eq_nil_of_length_eq_zero (by omega)
  · injection hv with hA
    subst hA
    refine .inr ⟨g, 0, rfl, fun j v hj => ?_⟩
    have := h.cells (g := g) rfl j v hj
    unfold Addr.add at this
    split at this
    · next h0 => simp only [h0, Nat.add_zero]; exact this
    · simpa using this
/-- The three cells of one. -/
theorem RdS.three {w : World} {A : Option Addr} {l : List Sh} {k : Nat} (h : RdS w A l) (hk : k < l.length) : ∃ b o, A = some ⟨b, o, none⟩ ∧ w.cell? ⟨b, o + 3 * k, none⟩ = some (.int .u64 l[k].q) ∧ w.cell? ⟨b, o + 3 * k + 1, none⟩ = some (.bool l[k].last) ∧ w.cell? ⟨b, o + 3 * k + 2, none⟩ = some (.string ⟨l[k].t.toArray⟩) := by
  rcases h with rfl | ⟨b, o, rfl, hc⟩
  · simp at hk
  · exact ⟨b, o, rfl, hc (3 * k + 0) (.int .u64 l[k].q) (rowS_get l k hk 0 (by omega)), by rw [Nat.add_assoc]; exact hc (3 * k + 1) (.bool l[k].last) (rowS_get l k hk 1 (by omega)), by rw [Nat.add_assoc]; exact hc (3 * k + 2) (.string ⟨l[k].t.toArray⟩) (rowS_get l k hk 2 (by omega))⟩

theorem neq_sheet (s t : Sh) (w : World) : (binOp .neq 120 (.agg (cells3 s)) (.agg (cells3 t))).run Tryz.prog w = .ok (.bool (!decide (s = t))) w := by
  have hS : Tryz.prog.underlying 120 = some (.struct (Tryz.prog.fieldsOf 120)) := by kernel_rfl
  have hp : Tryz.prog.stoodInHeld 120 = false := by kernel_rfl
  have u1 := Tryz.underlying35
  have u2 := Tryz.underlying4
  have u3 := Tryz.underlying9
  have a1 := Tryz.isAgg35
  have a2 := Tryz.isAgg4
  have a3 := Tryz.isAgg9
  have z1 := Tryz.sizeOf35
  have z2 := Tryz.sizeOf4
  have z3 := Tryz.sizeOf9
  simp only [cells3]
  rw [run_neq_struct, show (10000 : Nat) = 9999 + 1 from rfl, run_equalIn_agg w 9999 120 _ _ hS hp]
  simp only [Program.fieldsOf, Tryz.underlying120]
  go_simp
  by_cases h : s = t
  · subst h
    simp
  · have h1 : ¬ ((s.q : Int) = t.q ∧ s.last = t.last ∧ s.t = t.t) := fun e => h (Sh.ext' (by omega) e.2.1 e.2.2)
    rw [decide_eq_false h]
    repeat' split
    all_goals first | rfl | (exact absurd ⟨by assumption, by assumption, by assumption⟩ h1)

theorem eql_sheet (s t : Sh) (w : World) : (binOp .eql 120 (.agg (cells3 s)) (.agg (cells3 t))).run Tryz.prog w = .ok (.bool (decide (s = t))) w := by
  have hS : Tryz.prog.underlying 120 = some (.struct (Tryz.prog.fieldsOf 120)) := by kernel_rfl
  have hp : Tryz.prog.stoodInHeld 120 = false := by kernel_rfl
  have u1 := Tryz.underlying35
  have u2 := Tryz.underlying4
  have u3 := Tryz.underlying9
  have a1 := Tryz.isAgg35
  have a2 := Tryz.isAgg4
  have a3 := Tryz.isAgg9
  have z1 := Tryz.sizeOf35
  have z2 := Tryz.sizeOf4
  have z3 := Tryz.sizeOf9
  simp only [cells3]
  rw [run_eql_struct, show (10000 : Nat) = 9999 + 1 from rfl, run_equalIn_agg w 9999 120 _ _ hS hp]
  simp only [Program.fieldsOf, Tryz.underlying120]
  go_simp
  by_cases h : s = t
  · subst h
    simp
  · have h1 : ¬ ((s.q : Int) = t.q ∧ s.last = t.last ∧ s.t = t.t) := fun e => h (Sh.ext' (by omega) e.2.1 e.2.2)
    rw [decide_eq_false h]
    repeat' split
    all_goals first | rfl | (exact absurd ⟨by assumption, by assumption, by assumption⟩ h1)

/-- All texts, and whether there are sheets, none with too much text. -/
def textsL (l : List Sh) : List UInt8 × Bool := if ∀ s ∈ l, s.t.length ≤ 497 then (cat l, decide (l ≠ [])) else ([], false)
theorem cat_le (l : List Sh) (h : ∀ s ∈ l, s.t.length ≤ 497) : (cat l).length ≤ 497 * l.length := by
  induction l with
  | nil => simp [cat]
  | cons s l ih =>
    have h1 := ih fun x hx => h x (List.mem_cons_of_mem _ hx)
    have h2 := h s List.mem_cons_self
    show (s.t ++ cat l).length ≤ _
    rw [List.length_append, List.length_cons]
    omega
theorem new_builder (w : World) : Lib.IsBuilder 128 5 w.heap.size w.heap.size (Lib.byteCells []) (w.alloc (.cells #[.pointer none, .slice none 0 0] 128)) :=
  .inl ⟨Nat.le_refl _, .slice none 0 0, Box.new w _ _, World.ownsRow_nil _ _ _ _, by simp [Value.ownBlock]⟩
theorem builder_alloc {B b : Nat} {bs : List Value} {w : World} (h : Lib.IsBuilder 128 5 B b bs w) (o : Obj) : Lib.IsBuilder 128 5 B b bs (w.alloc o) := by
  rcases h with ⟨h1, v, h2, h3, h4⟩ | ⟨h1, v, h2, h3, h4⟩
  · exact .inl ⟨h1, v, Box.alloc h2 o, h3.alloc o, h4⟩
  · exact .inr ⟨h1, v, Box.alloc h2 o, h3.alloc o, h4⟩

end Go.Proofs.YtfcljcikajaedaaGreatDoor
