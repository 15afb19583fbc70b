/- Records and a box's head as bytes: plain mathematics, no program. -/
import Derived.Test.YtcgfnfejacgaeaaDoorNdMath
import Derived.Test.YtcgfnfejacgaeaaDoorCrcMath
namespace Go.Proofs.YtcgfnfejacgaeaaDoor
open Go.RowKit

/-- A record: its hash, its data. -/
structure Rc where
  hash : List UInt8
  data : List UInt8
def Rc.Ok (r : Rc) : Prop := r.hash.length = 32 ∧ r.data.length ≤ 2014
def rcL (r : Rc) : List UInt8 := r.hash ++ (beN 2 r.data.length ++ r.data)
def rcsL (l : List Rc) : List UInt8 := l.flatMap rcL
theorem rcL_len {r : Rc} (h : r.hash.length = 32) : (rcL r).length = 34 + r.data.length := by
  simp [rcL, beN_length, h]; omega
theorem rcsL_snoc (l : List Rc) (r : Rc) : rcsL (l ++ [r]) = rcsL l ++ rcL r := by simp [rcsL]
theorem rcsL_nil : rcsL [] = [] := rfl
theorem rcsL_drop {l : List Rc} {k : Nat} (h : k < l.length) : (rcsL l).drop (rcsL (l.take k)).length = rcL l[k] ++ rcsL (l.drop (k + 1)) := by
  have e : rcsL l = rcsL (l.take k) ++ rcsL (l.drop k) := by
    rw [rcsL, rcsL, rcsL, ← List.flatMap_append, List.take_append_drop]
  rw [e, List.drop_left, List.drop_eq_getElem_cons h]
  rfl
theorem rcsL_all (l : List Rc) {k : Nat} (h : l.length ≤ k) : (rcsL l).drop (rcsL (l.take k)).length = [] := by
  rw [List.take_of_length_le h, List.drop_length]
theorem rcsL_take {l : List Rc} {k : Nat} (h : k < l.length) : rcsL (l.take (k + 1)) = rcsL (l.take k) ++ rcL l[k] := by
  rw [take_snoc l k h, rcsL_snoc]
theorem rcsL_le (l : List Rc) (k : Nat) : (rcsL (l.take k)).length ≤ (rcsL l).length := by
  have e : rcsL l = rcsL (l.take k) ++ rcsL (l.drop k) := by
    rw [rcsL, rcsL, rcsL, ← List.flatMap_append, List.take_append_drop]
  rw [e, List.length_append]
  omega
theorem rcsL_pos {l : List Rc} {k : Nat} (hl : ∀ r ∈ l, r.Ok) (h : k < l.length) : (rcsL (l.take k)).length < (rcsL l).length := by
  have := rcsL_le l (k + 1)
  rw [rcsL_take h, List.length_append, rcL_len (hl _ (List.getElem_mem h)).1] at this
  omega
theorem rcsL_lens {l : List Rc} (hl : ∀ r ∈ l, r.Ok) : l.length ≤ (rcsL l).length := by
  induction l with
  | nil => simp
  | cons r l ih =>
    have e : rcsL (r :: l) = rcL r ++ rcsL l := rfl
    have h1 := ih fun x hx => hl x (List.mem_cons_of_mem _ hx)
    rw [e, List.length_append, rcL_len (hl r List.mem_cons_self).1, List.length_cons]
    omega

/-- A box's head. -/
structure Hd where
  box : Nat
  used : Nat
  sum : Nat
def Hd.Ok (h : Hd) : Prop := h.box < 65536 ∧ h.used < 65536 ∧ h.sum < 4294967296
def box1 : List UInt8 := [66, 79, 88, 49]
def hdW (h : Hd) : List UInt8 := ((box1 ++ beN 2 h.box) ++ beN 2 h.used) ++ beN 4 h.sum
def hdB (h : Hd) : List UInt8 := hdW h ++ List.replicate 496 0
/-- Its sector. -/
def secR (h : Hd) : List UInt8 := hdB h ++ beN 4 (crcN (hdB h))
theorem hdW_len (h : Hd) : (hdW h).length = 12 := by simp [hdW, box1, beN_length]
theorem hdB_len (h : Hd) : (hdB h).length = 508 := by rw [hdB, List.length_append, hdW_len, List.length_replicate]
theorem secR_len (h : Hd) : (secR h).length = 512 := by rw [secR, List.length_append, hdB_len, beN_length]

def rdBx (l : List UInt8) : List UInt8 × Bool := (gv 4 (l, false)).2
def rdUs (l : List UInt8) : List UInt8 × Bool := (gv 2 (rdBx l)).2
def rdSm (l : List UInt8) : List UInt8 × Bool := (gv 2 (rdUs l)).2
/-- The head that bytes say, if they are one's. -/
def rdH (l : List UInt8) : Hd := ⟨numN (gv 2 (rdBx l)).1, numN (gv 2 (rdUs l)).1, numN (gv 4 (rdSm l)).1⟩
def hd0 : Hd := ⟨0, 0, 0⟩
/-- What Take answers. -/
def takeR (l : List UInt8) : Hd × Int := if (rdH l).used ≤ 2048 ∧ l = secR (rdH l) then (rdH l, 0) else (hd0, 3)
theorem gv_num (n : Nat) (s : List UInt8 × Bool) : numN (gv n s).1 < 256 ^ n := by
  have h1 := numN_lt (gv n s).1
  have h2 : 256 ^ (gv n s).1.length ≤ 256 ^ n := Nat.pow_le_pow_right (by omega) (gv_len n s)
  omega
theorem rdH_ok (l : List UInt8) : (rdH l).Ok := ⟨gv_num 2 _, gv_num 2 _, gv_num 4 _⟩
theorem rd_sec {h : Hd} (ho : h.Ok) : rdH (secR h) = h := by
  have e0 : secR h = box1 ++ (beN 2 h.box ++ (beN 2 h.used ++ (beN 4 h.sum ++ (List.replicate 496 0 ++ beN 4 (crcN (hdB h)))))) := by
    simp only [secR, hdB, hdW, List.append_assoc]
  have b : rdBx (secR h) = (beN 2 h.box ++ (beN 2 h.used ++ (beN 4 h.sum ++ (List.replicate 496 0 ++ beN 4 (crcN (hdB h))))), false) := by
    rw [rdBx, e0, gv_app (a := box1) (n := 4) rfl]
  have u : rdUs (secR h) = (beN 2 h.used ++ (beN 4 h.sum ++ (List.replicate 496 0 ++ beN 4 (crcN (hdB h)))), false) := by
    rw [rdUs, b, gv_app (beN_length _ _)]
  have s : rdSm (secR h) = (beN 4 h.sum ++ (List.replicate 496 0 ++ beN 4 (crcN (hdB h))), false) := by
    rw [rdSm, u, gv_app (beN_length _ _)]
  rw [rdH, b, u, s, gv_app (beN_length _ _), gv_app (beN_length _ _), gv_app (beN_length _ _)]
  simp only [numN_beN 2 _ ho.1, numN_beN 2 _ ho.2.1, numN_beN 4 _ ho.2.2]
theorem take_sec {h : Hd} (ho : h.Ok) (hu : h.used ≤ 2048) : takeR (secR h) = (h, 0) := by
  unfold takeR
  rw [rd_sec ho, if_pos ⟨hu, rfl⟩]
theorem take_other {l : List UInt8} (h : l.length ≠ 512) : takeR l = (hd0, 3) := by
  unfold takeR
  rw [if_neg]
  rintro ⟨_, e⟩
  exact h (by rw [e]; exact secR_len _)
theorem drop_of {l : List UInt8} {a n : Nat} (h : a + n ≤ l.length) : gv n (l.drop a, false) = ((l.drop a).take n, (l.drop (a + n), false)) := by
  unfold gv
  rw [if_neg (by simp), if_pos (by simp; omega), List.drop_drop]
theorem rdH_of {l : List UInt8} (h : l.length = 512) : rdH l = ⟨numN ((l.drop 4).take 2), numN ((l.drop 6).take 2), numN ((l.drop 8).take 4)⟩ := by
  have b : rdBx l = (l.drop 4, false) := by
    have := drop_of (l := l) (a := 0) (n := 4) (by omega)
    rw [List.drop_zero] at this
    rw [rdBx, this]
  have u : rdUs l = (l.drop 6, false) := by rw [rdUs, b, drop_of (by omega)]
  have s : rdSm l = (l.drop 8, false) := by rw [rdSm, u, drop_of (by omega)]
  rw [rdH, b, u, s, drop_of (by omega), drop_of (by omega), drop_of (by omega)]
end Go.Proofs.YtcgfnfejacgaeaaDoor
