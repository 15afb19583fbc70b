/- What the document's own reader of a chunk gives, in plain mathematics. No program. -/
import Derived.Test.YtoonihhjdmkflaaChMath
import Derived.Test.YtoonihhjdmkflaaOpi
namespace Go.Proofs.Ytoonihhjdmkflaa
open Go.RowKit

def rfN (r : List UInt8) : Nat := numN (gv 1 (r, false)).1
def rfS (r : List UInt8) : List UInt8 × Bool := (gv 1 (r, false)).2
/-- The chunk that the document's own reader makes. -/
def rfC : List UInt8 → Ck
  | [] => ck0
  | x :: r => if x.toNat = 1 then ⟨1, ⟨r.toArray⟩, []⟩ else ⟨x.toNat, ⟨#[]⟩, (rdKs x.toNat (rfN r) (rfS r)).1⟩
theorem rfC_cons (x : UInt8) (r : List UInt8) : rfC (x :: r) = if x.toNat = 1 then ⟨1, ⟨r.toArray⟩, []⟩ else ⟨x.toNat, ⟨#[]⟩, (rdKs x.toNat (rfN r) (rfS r)).1⟩ := rfl
theorem rfN_lt (r : List UInt8) : rfN r < 256 := num1_lt _
theorem rfC_ok (l : List UInt8) : (rfC l).Ok := by
  rcases l with _ | ⟨x, r⟩
  · exact ck0_ok
  · rw [rfC_cons]
    split
    · exact ⟨(by decide : 1 < 256), fun k hk => by cases hk⟩
    · exact ⟨x.toNat_lt, rdKs_ok _ _ _⟩
theorem gv_cons (x : UInt8) (r : List UInt8) : gv 1 (x :: r, false) = ([x], (r, false)) := by
  rw [gv_fine (by simp)]
  simp
theorem num_one (x : UInt8) : numN [x] = x.toNat := by simp [numN]
theorem rc_cons (x : UInt8) (r : List UInt8) : rcKind (x :: r) = x.toNat ∧ rcS (x :: r) = (r, false) := by
  unfold rcKind rcS
  rw [gv_cons, num_one]
  exact ⟨rfl, rfl⟩
theorem read_cons (x : UInt8) (r : List UInt8) (h : x.toNat = 1 ∨ x.toNat = 2 ∨ x.toNat = 3) : readC (x :: r) = rfC (x :: r) := by
  obtain ⟨h1, h2⟩ := rc_cons x r
  unfold readC rcN rcS2
  rw [h1, h2, rfC_cons]
  rcases h with h | h
  · have e : ldB x.toNat = false := by rw [h]; rfl
    rw [e, if_neg (by simp), if_pos h, gv_fine (Nat.le_refl _), h]
    simp
  · have e : ldB x.toNat = true := by unfold ldB; exact decide_eq_true h
    rw [e, if_pos rfl, if_neg (by omega)]
    rfl
theorem may_kind {c : Ck} (h : c.kind ≠ 1) (h2 : c.kind ≠ 2) (h3 : c.kind ≠ 3) : mayB c = false := by
  unfold mayB
  rw [if_neg h, if_neg h2, if_neg h3]
theorem rf_kind (x : UInt8) (r : List UInt8) : (rfC (x :: r)).kind = x.toNat := by
  rw [rfC_cons]
  split
  · next h => rw [h]
  · rfl
theorem rd_kind (x : UInt8) (r : List UInt8) : (readC (x :: r)).kind = x.toNat := by
  unfold readC
  rw [(rc_cons x r).1]
  split <;> rfl
theorem ref_no (l : List UInt8) (h : mayB (rfC l) = false ∨ l = []) : takeC l = (ck0, 3) := by
  rcases l with _ | ⟨x, r⟩
  · have e : mayB (readC []) = false := by
      refine may_kind ?_ ?_ ?_ <;> decide
    unfold takeC
    rw [e]
    rfl
  · have h' : mayB (rfC (x :: r)) = false := by
      rcases h with h | h
      · exact h
      · cases h
    have e : mayB (readC (x :: r)) = false := by
      by_cases h1 : x.toNat = 1 ∨ x.toNat = 2 ∨ x.toNat = 3
      · rw [read_cons x r h1, h']
      · have := rd_kind x r
        exact may_kind (by omega) (by omega) (by omega)
    unfold takeC
    rw [e]
    simp
theorem may_read {x : UInt8} {r : List UInt8} (h : mayB (rfC (x :: r)) = true) : readC (x :: r) = rfC (x :: r) := by
  refine read_cons x r ?_
  have := rf_kind x r
  by_cases h1 : x.toNat = 1 ∨ x.toNat = 2 ∨ x.toNat = 3
  · exact h1
  · rw [may_kind (by omega) (by omega) (by omega)] at h
    cases h
theorem ref_dif (l : List UInt8) (hm : mayB (rfC l) = true) (h : putL (rfC l) ≠ l) : takeC l = (ck0, 3) := by
  rcases l with _ | ⟨x, r⟩
  · cases hm
  · unfold takeC
    rw [may_read hm, hm]
    split
    · rfl
    · rw [if_neg]
      rw [Bool.true_and, beq_iff_eq]
      exact fun e => h e.symm
theorem ref_yes (l : List UInt8) (hm : mayB (rfC l) = true) (h : putL (rfC l) = l) : takeC l = (rfC l, 0) := by
  have := take_put hm (rfC_ok l)
  rwa [h] at this
theorem gv_cases (n : Nat) (s : List UInt8 × Bool) : (gv n s).1.length = n ∨ (gv n s).1 = [] := by
  unfold gv
  split
  · exact .inr rfl
  · split
    · next h => exact .inl (by simp [Nat.min_eq_left h])
    · exact .inr rfl
end Go.Proofs.Ytoonihhjdmkflaa
