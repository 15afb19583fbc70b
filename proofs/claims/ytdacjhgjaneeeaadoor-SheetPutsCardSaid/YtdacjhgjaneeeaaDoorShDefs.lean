/- A sheet's sector, a text's sheets, as lists of bytes: plain arithmetic, no program. -/
import Derived.Test.YtdacjhgjaneeeaaDoorCrcMath
import Derived.Test.YtdacjhgjaneeeaaDoorNum
import Derived.Lib.Repeat
namespace Go.Proofs.YtdacjhgjaneeeaaDoor

structure Sh where
  q : Nat
  last : Bool
  t : List UInt8

theorem Sh.ext' {a b : Sh} (h1 : a.q = b.q) (h2 : a.last = b.last) (h3 : a.t = b.t) : a = b := by
  cases a; cases b; simp_all

instance : DecidableEq Sh := fun a b =>
  if h : a.q = b.q ∧ a.last = b.last ∧ a.t = b.t then isTrue (Sh.ext' h.1 h.2.1 h.2.2) else isFalse fun e => h ⟨congrArg Sh.q e, congrArg Sh.last e, congrArg Sh.t e⟩

def kindN (b : Bool) : Nat := if b then 2 else 1
/-- All but the checksum. -/
def bodyL (q : Nat) (b : Bool) (l : List UInt8) : List UInt8 := beN 8 q ++ beN 1 (kindN b) ++ beN 2 l.length ++ l ++ List.replicate (497 - l.length) 0
/-- The sector. -/
def secL (q : Nat) (b : Bool) (l : List UInt8) : List UInt8 := bodyL q b l ++ le4 (crcN (bodyL q b l))

theorem bodyL_length (q : Nat) (b : Bool) (l : List UInt8) (h : l.length ≤ 497) : (bodyL q b l).length = 508 := by
  simp [bodyL, beN_length]; omega
theorem secL_length (q : Nat) (b : Bool) (l : List UInt8) (h : l.length ≤ 497) : (secL q b l).length = 512 := by
  simp [secL, bodyL_length q b l h, le4]

/-- A number of 32 bits with its bytes turned round. -/
def rev32 (n : Nat) : Nat := ((n % 256 * 256 + n / 256 % 256) * 256 + n / 65536 % 256) * 256 + n / 16777216 % 256
theorem rev32_lt (n : Nat) : rev32 n < 4294967296 := by unfold rev32; omega
theorem ofNat_mod (n : Nat) : UInt8.ofNat (n % 256) = UInt8.ofNat n := by
  apply UInt8.toNat_inj.1
  simp
set_option maxRecDepth 100000 in
theorem beN_rev (n : Nat) : beN 4 (rev32 n) = le4 n := by
  have h1 := ofNat_mod n
  have h2 := ofNat_mod (n / 256)
  have h3 := ofNat_mod (n / 65536)
  have h4 := ofNat_mod (n / 16777216)
  simp only [beN, le4, List.nil_append, List.cons_append]
  rw [← h1, ← h2, ← h3, ← h4]
  unfold rev32
  have l1 : n % 256 < 256 := Nat.mod_lt _ (by decide)
  have l2 : n / 256 % 256 < 256 := Nat.mod_lt _ (by decide)
  have l3 : n / 65536 % 256 < 256 := Nat.mod_lt _ (by decide)
  have l4 : n / 16777216 % 256 < 256 := Nat.mod_lt _ (by decide)
  clear h1 h2 h3 h4
  generalize n % 256 = a at *
  generalize n / 256 % 256 = b at *
  generalize n / 65536 % 256 = c at *
  generalize n / 16777216 % 256 = d at *
  have q (x y : Nat) (h : y < 256) : (x * 256 + y) / 256 = x ∧ (x * 256 + y) % 256 = y := by omega
  rw [(q _ d l4).1, (q _ d l4).2, (q _ c l3).1, (q _ c l3).2, (q _ b l2).1, (q _ b l2).2, Nat.mod_eq_of_lt l1]
theorem repeat_zero (c : Nat) : Lib.repeatL [0] c = List.replicate c (0 : UInt8) := by
  induction c with
  | zero => rfl
  | succ c ih => rw [Lib.repeatL, ih, List.replicate_succ]; rfl

/-- What stands in a sector's places. -/
def tq (l : List UInt8) : Nat := numN (l.take 8)
def tl (l : List UInt8) : Bool := decide (numN ((l.drop 8).take 1) = 2)
def tn (l : List UInt8) : Nat := numN ((l.drop 9).take 2)
def tt (l : List UInt8) : List UInt8 := (l.drop 11).take (tn l)
/-- The sheet of bytes, if they are a sector. -/
def takeS (l : List UInt8) : Option Sh := if l.length = 512 ∧ tn l ≤ 497 ∧ secL (tq l) (tl l) (tt l) = l then some ⟨tq l, tl l, tt l⟩ else none

theorem takeS_some {l : List UInt8} {s : Sh} (h : takeS l = some s) : l.length = 512 ∧ tn l ≤ 497 ∧ secL (tq l) (tl l) (tt l) = l ∧ s = ⟨tq l, tl l, tt l⟩ := by
  unfold takeS at h
  split at h
  · next h1 => exact ⟨h1.1, h1.2.1, h1.2.2, (by injection h with h; exact h.symm)⟩
  · cases h
theorem takeS_crc {l : List UInt8} {s : Sh} (h : takeS l = some s) : crcN l = 1214729159 := by
  obtain ⟨_, _, h3, _⟩ := takeS_some h
  rw [← h3]
  exact crc_behind _
/-- What differs from a sector by bits of 32 side by side is none's. -/
theorem takeS_changed {l m : List UInt8} {s : Sh} (h : takeS l = some s) (hl : m.length = l.length) (t c : Nat) (ht : t ≤ 8 * l.length) (hc : c < 4294967296) (hx : leN m = leN l ^^^ c * 2 ^ t) (hne : m ≠ l) : takeS m = none := by
  rcases hm : takeS m with _ | s'
  · rfl
  · exact absurd ((crc_tells m l t c hl ht hc hx).1 ((takeS_crc hm).trans (takeS_crc h).symm)) hne

theorem bodyL_eq (q : Nat) (b : Bool) (l : List UInt8) : bodyL q b l = beN 8 q ++ (beN 1 (kindN b) ++ (beN 2 l.length ++ (l ++ List.replicate (497 - l.length) 0))) := by
  simp only [bodyL, List.append_assoc]
theorem tq_secL (q : Nat) (b : Bool) (l : List UInt8) (hq : q < 18446744073709551616) : tq (secL q b l) = q := by
  unfold tq secL
  rw [bodyL_eq, List.append_assoc, List.take_left' (beN_length 8 q)]
  exact numN_beN 8 q (by simpa using hq)
theorem tk_secL (q : Nat) (b : Bool) (l : List UInt8) : numN (((secL q b l).drop 8).take 1) = kindN b := by
  unfold secL
  rw [bodyL_eq, List.append_assoc, List.drop_left' (beN_length 8 q), List.append_assoc, List.take_left' (beN_length 1 _)]
  exact numN_beN 1 _ (by cases b <;> decide)
theorem tl_secL (q : Nat) (b : Bool) (l : List UInt8) : tl (secL q b l) = b := by
  unfold tl
  rw [tk_secL]
  cases b <;> decide
theorem drop9 (q : Nat) (b : Bool) (l : List UInt8) : (secL q b l).drop 9 = beN 2 l.length ++ (l ++ (List.replicate (497 - l.length) 0 ++ le4 (crcN (bodyL q b l)))) := by
  unfold secL
  generalize crcN (bodyL q b l) = c
  rw [bodyL_eq]
  rw [show (9 : Nat) = 8 + 1 by rfl, ← List.drop_drop, List.append_assoc, List.drop_left' (beN_length 8 q), List.append_assoc, List.drop_left' (beN_length 1 _)]
  simp only [List.append_assoc]
theorem tn_secL (q : Nat) (b : Bool) (l : List UInt8) (h : l.length ≤ 497) : tn (secL q b l) = l.length := by
  unfold tn
  rw [drop9, List.take_left' (beN_length 2 _)]
  exact numN_beN 2 _ (by omega)
theorem tt_secL (q : Nat) (b : Bool) (l : List UInt8) (h : l.length ≤ 497) : tt (secL q b l) = l := by
  unfold tt
  rw [tn_secL q b l h, show (11 : Nat) = 9 + 2 by rfl, ← List.drop_drop, drop9, List.drop_left' (beN_length 2 _), List.take_left' rfl]
theorem takeS_secL (q : Nat) (b : Bool) (l : List UInt8) (hq : q < 18446744073709551616) (h : l.length ≤ 497) : takeS (secL q b l) = some ⟨q, b, l⟩ := by
  unfold takeS
  rw [tq_secL q b l hq, tl_secL, tt_secL q b l h, tn_secL q b l h, if_pos ⟨secL_length q b l h, h, rfl⟩]
/-- A sector's ninth byte is 1 or 2. -/
theorem takeS_kind {l : List UInt8} (h : numN ((l.drop 8).take 1) ≠ 1) (h2 : numN ((l.drop 8).take 1) ≠ 2) : takeS l = none := by
  rcases hm : takeS l with _ | s
  · rfl
  · obtain ⟨_, _, h3, _⟩ := takeS_some hm
    have := tk_secL (tq l) (tl l) (tt l)
    rw [h3] at this
    cases hb : tl l <;> rw [hb] at this <;> simp only [kindN] at this
    · exact absurd this h
    · exact absurd this h2

/-- How many sheets. -/
def need (n : Nat) : Nat := (n - 1) / 497 + 1
/-- The i-th sheet of a text. -/
def shAt (q : Nat) (l : List UInt8) (i : Nat) : Sh := ⟨(q + i) % 18446744073709551616, i + 1 == need l.length, (l.drop (497 * i)).take 497⟩
def cutL (q : Nat) (l : List UInt8) : List Sh := (List.range (need l.length)).map (shAt q l)
theorem cutL_length (q : Nat) (l : List UInt8) : (cutL q l).length = need l.length := by simp [cutL]
theorem need_pos (n : Nat) : 0 < need n := Nat.succ_pos _
theorem cutL_get (q : Nat) (l : List UInt8) (i : Nat) (h : i < need l.length) : (cutL q l)[i]? = some (shAt q l i) := by simp [cutL, h]
theorem cutL_take (q : Nat) (l : List UInt8) (i : Nat) (h : i < need l.length) : (cutL q l).take (i + 1) = (cutL q l).take i ++ [shAt q l i] := by
  rw [List.take_add_one, cutL_get q l i h]; rfl
theorem shAt_le (q : Nat) (l : List UInt8) (i : Nat) : (shAt q l i).t.length ≤ 497 := by simp [shAt]; omega
theorem shAt_lt (q : Nat) (l : List UInt8) (i : Nat) : (shAt q l i).q < 18446744073709551616 := Nat.mod_lt _ (by decide)
/-- All texts, one behind the other. -/
def cat (l : List Sh) : List UInt8 := (l.map (·.t)).flatten
theorem cat_snoc (l : List Sh) (s : Sh) : cat (l ++ [s]) = cat l ++ s.t := by simp [cat]
theorem cat_take (q : Nat) (l : List UInt8) : ∀ k, k ≤ need l.length → cat ((cutL q l).take k) = l.take (497 * k)
  | 0, _ => by simp [cat]
  | k + 1, h => by
    rw [cutL_take q l k h, cat_snoc, cat_take q l k (by omega)]
    show l.take (497 * k) ++ (l.drop (497 * k)).take 497 = _
    rw [Nat.mul_succ, List.take_add]
theorem cat_cutL (q : Nat) (l : List UInt8) : cat (cutL q l) = l := by
  have := cat_take q l (need l.length) (Nat.le_refl _)
  rw [List.take_of_length_le (by rw [cutL_length]; exact Nat.le_refl _), List.take_of_length_le (by unfold need; omega)] at this
  exact this
/-- The text that is cut into just these sheets. -/
def joinS (l : List Sh) : Option (List UInt8) := match l with
  | [] => none
  | s :: _ => if cutL s.q (cat l) = l then some (cat l) else none
theorem cutL_head (q : Nat) (l : List UInt8) (hq : q < 18446744073709551616) : ∃ r, cutL q l = ⟨q, 1 == need l.length, l.take 497⟩ :: r := by
  have h0 := cutL_get q l 0 (need_pos _)
  rcases hc : cutL q l with _ | ⟨s, r⟩
  · rw [hc] at h0; cases h0
  · rw [hc] at h0
    injection h0 with h0
    refine ⟨r, ?_⟩
    rw [h0]
    simp [shAt, Nat.mod_eq_of_lt hq]
theorem joinS_cutL (q : Nat) (l : List UInt8) (hq : q < 18446744073709551616) : joinS (cutL q l) = some l := by
  obtain ⟨r, hr⟩ := cutL_head q l hq
  have hc := cat_cutL q l
  rw [hr] at hc ⊢
  unfold joinS
  simp only [hc]
  rw [if_pos hr]
theorem joinS_some {l : List Sh} {t : List UInt8} (h : joinS l = some t) : ∃ q, l = cutL q t ∧ t = cat l := by
  cases l with
  | nil => cases h
  | cons s r =>
    unfold joinS at h
    simp only at h
    split at h
    · next hc => injection h with h; exact ⟨s.q, by rw [← h]; exact hc.symm, h.symm⟩
    · cases h
theorem joinS_le {l : List Sh} {t : List UInt8} (h : joinS l = some t) : ∀ s ∈ l, s.t.length ≤ 497 := by
  obtain ⟨q, hl, _⟩ := joinS_some h
  intro s hs
  rw [hl] at hs
  simp only [cutL, List.mem_map] at hs
  obtain ⟨i, _, rfl⟩ := hs
  exact shAt_le _ _ _
/-- Without its last sheet a text is none's. -/
theorem joinS_short (q : Nat) (l : List UInt8) (n : Nat) (hn : n + 1 = need l.length) : joinS ((cutL q l).take n) = none := by
  rcases hm : joinS ((cutL q l).take n) with _ | t
  · rfl
  · obtain ⟨q', h1, h2⟩ := joinS_some hm
    have hlen := congrArg List.length h1
    rw [List.length_take, cutL_length, cutL_length] at hlen
    have hp := need_pos t.length
    have hg : ((cutL q l).take n)[n - 1]? = (cutL q' t)[n - 1]? := by rw [h1]
    rw [cutL_get q' t (n - 1) (by omega), List.getElem?_take, if_pos (by omega), cutL_get q l (n - 1) (by omega)] at hg
    injection hg with hg
    have hb := congrArg Sh.last hg
    simp only [shAt] at hb
    have e1 : (n - 1 + 1 == need l.length) = false := by simp; omega
    have e2 : (n - 1 + 1 == need t.length) = true := by simp; omega
    rw [e1, e2] at hb
    cases hb
end Go.Proofs.YtdacjhgjaneeeaaDoor
