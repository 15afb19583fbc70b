/- The acts of the laws of layer 4: how they lie in memory, and whether they are more, or greater, than a law looks at. No condition. -/
import Derived.Test.YtbdiebkfkmjjiaaDkWake
namespace Go.Proofs.Ytbdiebkfkmjjiaa
open Go.RowKit Go.Maps

/-- An act. -/
structure Ac where
  d : Int
  n : Int
  keep : List UInt8
  c : UInt8
  short : Bool
structure Ac.Ok (x : Ac) : Prop where
  d0 : 0 ≤ x.d
  d1 : x.d < 256
  n0 : -9223372036854775808 ≤ x.n
  n1 : x.n ≤ 9223372036854775807
  k1 : x.keep.length ≤ maxLen
def Ac.cells (x : Ac) : Array Value := #[.int .u8 x.d, .int .i64 x.n, .string ⟨x.keep.toArray⟩, .int .u8 x.c.toNat, .bool x.short]
/-- A slice at A reads as these acts, in blocks below B. -/
def Acs (w : World) (B : Nat) (A : Option Addr) (l : List Ac) : Prop :=
  (∀ x ∈ l, x.Ok) ∧ (l = [] ∨ ∃ b o, A = some ⟨b, o, none⟩ ∧ b < B ∧ ∀ i x, l[i]? = some x → ∀ j v, x.cells[j]? = some v → w.cell? ⟨b, o + i * 5 + j, none⟩ = some v)
theorem Acs.keep {w w' : World} {B : Nat} {A : Option Addr} {l : List Ac} (h : Acs w B A l) (hk : ∀ k, k < B → w'.heap[k]? = w.heap[k]?) : Acs w' B A l := by
  refine ⟨h.1, ?_⟩
  rcases h.2 with h0 | ⟨b, o, rfl, hb, hc⟩
  · exact .inl h0
  · exact .inr ⟨b, o, rfl, hb, fun i x hx j v hv => (World.cell?_of_block (hk b hb)).trans (hc i x hx j v hv)⟩
/-- More than 80 acts, or a text of more than 40 bytes. -/
def greatA (l : List Ac) : Bool := decide (80 < l.length) || l.any fun x => decide (40 < x.keep.length)
theorem not_great {l : List Ac} (h : greatA l = false) : l.length ≤ 80 ∧ ∀ x ∈ l, x.keep.length ≤ 40 := by
  simp [greatA] at h
  exact ⟨h.1, fun x hx => h.2 x hx⟩
theorem take_snoc {α : Type} (l : List α) (k : Nat) (h : k < l.length) : l.take (k + 1) = l.take k ++ [l[k]] := by
  rw [List.take_succ_eq_append_getElem h]
section
variable {B : Nat} {A : Option Addr} {l : List Ac} {w : World}

set_option maxHeartbeats 400000 in
theorem great_any (h : Acs w B A l) (c : Nat) (hc : l.length ≤ c) (_hm : c ≤ maxLen) :
    Calls Try.prog 6 #[.slice A l.length c] w fun e w' => e = .returned (.bool (greatA l)) ∧ w = w' := by
  unfold maxLen at _hm
  have H := Lib.hid h.2
  clear h
  by_cases h80 : 80 < l.length
  · have hg : greatA l = true := by simp [greatA, h80]
    have Hg := Lib.hid hg
    clear hg
    go_enter Try.func6, Try.ntmps6
    go_wp2_with fail
    go_ret
    exact ⟨by rw [Hg.out]; rfl, rfl⟩
  · have hd : decide (80 < l.length) = false := by simp; omega
    go_enter Try.func6, Try.ntmps6
    go_wp2_with fail
    go_loop [3] (fun i => ∃ k : Nat, k ≤ l.length ∧ i = .int .i64 k ∧ ∀ x ∈ l.take k, x.keep.length ≤ 40) (fun i => l.length - (intOf i).toNat)
    case atStart => exact ⟨0, Nat.zero_le _, rfl, by simp⟩
    case round =>
      obtain ⟨k, hk, rfl, hx⟩ := hrel
      have Hx := Lib.hid hx
      clear hx
      by_cases hlt : k < l.length
      · obtain ⟨b, o, rfl, _, hcell⟩ : ∃ b o, A = some ⟨b, o, none⟩ ∧ b < B ∧ ∀ i x, l[i]? = some x → ∀ j v, x.cells[j]? = some v → w.cell? ⟨b, o + i * 5 + j, none⟩ = some v := by
          rcases H.out with h0 | h0
          · subst h0; simp at hlt
          · exact h0
        have c3 := hcell k l[k] (List.getElem?_eq_getElem hlt) 2 (.string ⟨l[k].keep.toArray⟩) rfl
        obtain ⟨s, hs⟩ : ∃ s, s = l[k].keep := ⟨_, rfl⟩
        rw [← hs] at c3
        have Hs := Lib.hid hs
        clear hs hcell
        by_cases hb4 : 40 < s.length
        · have hg : greatA l = true := by
            simp only [greatA, Bool.or_eq_true]
            right
            rw [List.any_eq_true]
            exact ⟨l[k], List.getElem_mem _, by rw [← Hs.out]; simpa using hb4⟩
          have Hg := Lib.hid hg
          clear hg
          go_wp2_with fail
          go_ret
          exact ⟨by rw [Hg.out]; rfl, rfl⟩
        · go_wp2_with fail
          go_round
          case rel =>
            refine ⟨k + 1, by omega, by go_num, fun x hx => ?_⟩
            rw [take_snoc l k hlt] at hx
            rcases List.mem_append.1 hx with hx | hx
            · exact Hx.out x hx
            · have e := List.mem_singleton.1 hx
              rw [e, ← Hs.out]
              omega
          case measure => simp [intOf]; omega
      · have hg : greatA l = false := by
          have h1 := Hx.out
          rw [List.take_of_length_le (by omega)] at h1
          simp only [greatA, Bool.or_eq_false_iff]
          refine ⟨hd, ?_⟩
          rw [List.any_eq_false]
          intro x hx
          have := h1 x hx
          simp
          omega
        have Hg := Lib.hid hg
        clear hg
        go_wp2_with fail
        go_ret
        exact ⟨by rw [Hg.out]; rfl, rfl⟩
end
end Go.Proofs.Ytbdiebkfkmjjiaa
