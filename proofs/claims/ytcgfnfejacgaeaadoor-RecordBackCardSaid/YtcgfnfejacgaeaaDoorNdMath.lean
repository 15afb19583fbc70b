/- Nodes of a tree and their pages: plain mathematics, no program. -/
import Derived.Test.YtcgfnfejacgaeaaDoorNum
import GoSem.Op.String
namespace Go.Proofs.YtcgfnfejacgaeaaDoor
open Go.RowKit

/-- A node. -/
structure Nd where
  leaf : Bool
  keys : List ByteArray
  vals : List ByteArray
  kids : List Int
def nd0 : Nd := ⟨false, [], [], []⟩
/-- Whether a shape may be. -/
def shB (kw vw : Int) : Bool := decide (1 ≤ kw ∧ kw ≤ 64 ∧ 0 ≤ vw ∧ vw ≤ 64)
def capZ (kw vw : Int) : Int := if shB kw vw = true then 508 / (kw + vw) else 0
def fanZ (kw vw : Int) : Int := if shB kw vw = true then (508 + kw) / (kw + 2) else 0
theorem shB_iff {kw vw : Int} : shB kw vw = true ↔ 1 ≤ kw ∧ kw ≤ 64 ∧ 0 ≤ vw ∧ vw ≤ 64 := by unfold shB; exact decide_eq_true_iff
/-- The order of texts. -/
def bls (a b : ByteArray) : Bool := Go.Op.bytesLess a.toList b.toList
def ble (a b : ByteArray) : Bool := bls a b || (a.toList == b.toList)
/-- What is asked of one key behind the one ahead of it. -/
def kyB (kw : Int) (p k : ByteArray) : Bool := !ble k p && ((k.size : Int) == kw)
def keysB (kw : Int) : ByteArray → List ByteArray → Bool
  | _, [] => true
  | p, k :: r => kyB kw p k && keysB kw k r
def valsB (vw : Int) (l : List ByteArray) : Bool := l.all fun v => (v.size : Int) == vw
def kidB (c : Int) : Bool := decide (1 ≤ c) && decide (c < 1024)
def kidsB (l : List Int) : Bool := l.all kidB
def leafB (kw vw : Int) (n : Nd) : Bool := decide ((n.keys.length : Int) ≤ capZ kw vw) && ((n.vals.length : Int) == (n.keys.length : Int)) && ((n.kids.length : Int) == 0) && valsB vw n.vals
def innerB (kw vw : Int) (n : Nd) : Bool := decide (2 ≤ (n.kids.length : Int)) && decide ((n.kids.length : Int) ≤ fanZ kw vw) && ((n.keys.length : Int) == (n.kids.length : Int) - 1) && ((n.vals.length : Int) == 0) && kidsB n.kids
def hasB (kw vw : Int) (n : Nd) : Bool := if n.leaf = true then leafB kw vw n && keysB kw ⟨#[]⟩ n.keys else innerB kw vw n && keysB kw ⟨#[]⟩ n.keys
/-- Whether a node of the shape may be. -/
def okB (kw vw : Int) (n : Nd) : Bool := shB kw vw && hasB kw vw n

/-- A text's bytes. -/
def byt (s : ByteArray) : List UInt8 := s.data.toList
theorem byt_len (s : ByteArray) : (byt s).length = s.size := by simp [byt]
theorem byt_mk (l : List UInt8) : byt ⟨l.toArray⟩ = l := by simp [byt]
theorem mk_byt (s : ByteArray) : (⟨(byt s).toArray⟩ : ByteArray) = s := by cases s; simp [byt]
theorem toList_byt (s : ByteArray) : s.toList = byt s := ByteArray.toList_eq s
theorem eq_byt {s t : ByteArray} : (s.toList == t.toList) = decide (s = t) := by
  rw [toList_byt, toList_byt]
  by_cases h : s = t
  · subst h; simp
  · rw [decide_eq_false h]
    refine beq_eq_false_iff_ne.2 fun e => h ?_
    rw [← mk_byt s, ← mk_byt t, e]
/-- A leaf's entries, from the i-th value on. -/
def entL : List ByteArray → List ByteArray → List UInt8
  | k :: r, v :: t => byt k ++ (byt v ++ entL r t)
  | k :: r, [] => byt k ++ entL r []
  | [], _ => []
def kidL (l : List Int) : List UInt8 := l.flatMap fun c => beN 2 c.toNat
def keyL (l : List ByteArray) : List UInt8 := l.flatMap byt
def bodyL (n : Nd) : List UInt8 := if n.leaf = true then entL n.keys n.vals else keyL n.keys
def kindN (n : Nd) : Nat := if n.leaf = true then 1 else 2
def headL (n : Nd) : List UInt8 := beN 1 (kindN n) ++ (beN 1 0 ++ beN 2 n.keys.length)
def wordL (n : Nd) : List UInt8 := headL n ++ (kidL n.kids ++ bodyL n)
/-- A node's page. -/
def pageL (n : Nd) : List UInt8 := wordL n ++ List.replicate (512 - (wordL n).length) 0

theorem headL_len (n : Nd) : (headL n).length = 4 := by simp [headL, beN_length]
theorem kidL_len : ∀ l : List Int, (kidL l).length = l.length * 2
  | [] => rfl
  | c :: r => by
    have := kidL_len r
    simp only [kidL, List.flatMap_cons, List.length_append, beN_length, List.length_cons] at this ⊢
    omega
theorem keysB_sizes {kw : Int} : ∀ {p : ByteArray} {l : List ByteArray}, keysB kw p l = true → ∀ k ∈ l, (k.size : Int) = kw
  | _, [], _, k, hk => by cases hk
  | p, x :: r, h, k, hk => by
    simp only [keysB, kyB, Bool.and_eq_true, beq_iff_eq] at h
    rcases List.mem_cons.1 hk with rfl | hk
    · exact h.1.2
    · exact keysB_sizes h.2 k hk
theorem keyL_len {q : Nat} : ∀ l : List ByteArray, (∀ k ∈ l, k.size = q) → (keyL l).length = l.length * q
  | [], _ => by simp [keyL]
  | k :: r, h => by
    have := keyL_len r fun x hx => h x (List.mem_cons_of_mem _ hx)
    have hk := h k List.mem_cons_self
    simp only [keyL, List.flatMap_cons, List.length_append, List.length_cons, byt_len] at this ⊢
    rw [this, hk, Nat.succ_mul]
    omega
theorem entL_len {q u : Nat} : ∀ l m : List ByteArray, (∀ k ∈ l, k.size = q) → (∀ v ∈ m, v.size = u) → m.length = l.length → (entL l m).length = l.length * (q + u)
  | [], [], _, _, _ => by simp [entL]
  | [], _ :: _, _, _, h => by cases h
  | _ :: _, [], _, _, h => by cases h
  | k :: r, v :: t, h, g, e => by
    have := entL_len r t (fun x hx => h x (List.mem_cons_of_mem _ hx)) (fun x hx => g x (List.mem_cons_of_mem _ hx)) (by simpa using e)
    have hk := h k List.mem_cons_self
    have hv := g v List.mem_cons_self
    simp only [entL, List.length_append, List.length_cons, byt_len]
    rw [this, hk, hv, Nat.succ_mul]
    omega

/-- What a node that may be is. -/
theorem okB_leaf {kw vw : Int} {n : Nd} (h : okB kw vw n = true) (hl : n.leaf = true) :
    (1 ≤ kw ∧ kw ≤ 64 ∧ 0 ≤ vw ∧ vw ≤ 64) ∧ (n.keys.length : Int) ≤ 508 / (kw + vw) ∧ n.vals.length = n.keys.length ∧ n.kids = [] ∧ (∀ v ∈ n.vals, (v.size : Int) = vw) ∧ keysB kw ⟨#[]⟩ n.keys = true := by
  simp only [okB, hasB, hl, if_true, leafB, valsB, Bool.and_eq_true, decide_eq_true_eq, beq_iff_eq, List.all_eq_true] at h
  obtain ⟨h0, ⟨⟨⟨h1, h2⟩, h3⟩, h4⟩, h5⟩ := h
  unfold capZ at h1
  rw [if_pos h0] at h1
  exact ⟨shB_iff.1 h0, h1, by omega, List.eq_nil_of_length_eq_zero (by omega), h4, h5⟩
theorem okB_inner {kw vw : Int} {n : Nd} (h : okB kw vw n = true) (hl : n.leaf = false) :
    (1 ≤ kw ∧ kw ≤ 64 ∧ 0 ≤ vw ∧ vw ≤ 64) ∧ 2 ≤ n.kids.length ∧ (n.kids.length : Int) ≤ (508 + kw) / (kw + 2) ∧ n.keys.length + 1 = n.kids.length ∧ n.vals = [] ∧ (∀ c ∈ n.kids, 1 ≤ c ∧ c < 1024) ∧ keysB kw ⟨#[]⟩ n.keys = true := by
  simp only [okB, hasB, hl, Bool.false_eq_true, if_false, innerB, kidsB, kidB, Bool.and_eq_true, decide_eq_true_eq, beq_iff_eq, List.all_eq_true] at h
  obtain ⟨h0, ⟨⟨⟨⟨h1, h2⟩, h3⟩, h4⟩, h5⟩, h6⟩ := h
  unfold fanZ at h2
  rw [if_pos h0] at h2
  exact ⟨shB_iff.1 h0, by omega, h2, by omega, List.eq_nil_of_length_eq_zero (by omega), h5, h6⟩
theorem cap_mul {k q : Int} (hq : 1 ≤ q) (h : k ≤ 508 / q) : k * q ≤ 508 := by
  have h1 : k * q ≤ 508 / q * q := Int.mul_le_mul_of_nonneg_right h (by omega)
  have h2 : 508 / q * q ≤ 508 := Int.ediv_mul_le _ (by omega)
  omega
theorem cap_le {k q : Int} (hq : 1 ≤ q) (hk : 0 ≤ k) (h : k ≤ 508 / q) : k ≤ 508 := by
  have h1 := cap_mul hq h
  have h2 : k * 1 ≤ k * q := Int.mul_le_mul_of_nonneg_left hq hk
  omega
theorem fan_mul {k q : Int} (hq : 1 ≤ q) (h : k ≤ (508 + q) / (q + 2)) : k * (q + 2) ≤ 508 + q := by
  have h1 : k * (q + 2) ≤ (508 + q) / (q + 2) * (q + 2) := Int.mul_le_mul_of_nonneg_right h (by omega)
  have h2 : (508 + q) / (q + 2) * (q + 2) ≤ 508 + q := Int.ediv_mul_le _ (by omega)
  omega
theorem fan_le {k q : Int} (hq : 1 ≤ q) (h : k ≤ (508 + q) / (q + 2)) : k ≤ 508 := by
  have h1 := fan_mul hq h
  rcases Int.lt_or_le 508 k with h3 | h3
  · have h2 : 509 * (q + 2) ≤ k * (q + 2) := Int.mul_le_mul_of_nonneg_right (by omega) (by omega)
    omega
  · exact h3
theorem okB_keys {kw vw : Int} {n : Nd} (h : okB kw vw n = true) : n.keys.length ≤ 508 ∧ n.kids.length ≤ 508 ∧ n.vals.length ≤ 508 := by
  rcases hl : n.leaf with _ | _
  · obtain ⟨hs, _, h2, h3, h4, _⟩ := okB_inner h hl
    have := fan_le hs.1 h2
    rw [h4]
    simp only [List.length_nil]
    omega
  · obtain ⟨hs, h1, h2, h3, _⟩ := okB_leaf h hl
    have := cap_le (by omega) (by omega) h1
    rw [h3]
    simp only [List.length_nil]
    omega
theorem word_le {kw vw : Int} {n : Nd} (h : okB kw vw n = true) : (wordL n).length ≤ 512 := by
  rcases hl : n.leaf with _ | _
  · obtain ⟨hs, _, h2, h3, h4, _, h5⟩ := okB_inner h hl
    have hm := fan_mul hs.1 h2
    have hk := keyL_len (q := kw.toNat) n.keys (fun k hk => by have := keysB_sizes h5 k hk; omega)
    have e : bodyL n = keyL n.keys := by simp [bodyL, hl]
    simp only [wordL, e, List.length_append, headL_len, kidL_len, hk]
    have e1 : (n.kids.length : Int) = n.keys.length + 1 := by omega
    rw [e1] at hm
    have e2 : ((n.keys.length : Int) + 1) * (kw + 2) = n.keys.length * kw + n.keys.length * 2 + (kw + 2) := by
      rw [Int.add_mul, Int.mul_add, Int.one_mul]
    rw [e2] at hm
    have e3 : ((n.keys.length * kw.toNat : Nat) : Int) = n.keys.length * kw := by rw [Int.natCast_mul, Int.toNat_of_nonneg (by omega)]
    rw [← e3] at hm
    omega
  · obtain ⟨hs, h1, h2, h3, h4, h5⟩ := okB_leaf h hl
    have hm := cap_mul (by omega) h1
    have hk := entL_len (q := kw.toNat) (u := vw.toNat) n.keys n.vals (fun k hk => by have := keysB_sizes h5 k hk; omega) (fun v hv => by have := h4 v hv; omega) h2
    have e : bodyL n = entL n.keys n.vals := by simp [bodyL, hl]
    simp only [wordL, e, List.length_append, headL_len, kidL_len, hk, h3, List.length_nil]
    have e3 : ((n.keys.length * (kw.toNat + vw.toNat) : Nat) : Int) = n.keys.length * (kw + vw) := by
      rw [Int.natCast_mul, Int.natCast_add, Int.toNat_of_nonneg (by omega), Int.toNat_of_nonneg (by omega)]
    rw [← e3] at hm
    omega
theorem page_len {kw vw : Int} {n : Nd} (h : okB kw vw n = true) : (pageL n).length = 512 := by
  have := word_le h
  simp only [pageL, List.length_append, List.length_replicate]
  omega

/-- What a reader that may have failed gives: the bytes (none, if it has failed or fails), and what is left. -/
def gv (n : Nat) (s : List UInt8 × Bool) : List UInt8 × (List UInt8 × Bool) :=
  if s.2 = true then ([], s) else if n ≤ s.1.length then (s.1.take n, (s.1.drop n, false)) else ([], (s.1, true))
theorem gv_len (n : Nat) (s : List UInt8 × Bool) : (gv n s).1.length ≤ n := by
  unfold gv
  split
  · simp
  · split
    · simp; omega
    · simp
theorem gv_left (n : Nat) (s : List UInt8 × Bool) : (gv n s).2.1.length ≤ s.1.length := by
  unfold gv
  split
  · simp
  · split
    · simp
    · simp
theorem gv_app {n : Nat} {a b : List UInt8} (h : a.length = n) : gv n (a ++ b, false) = (a, (b, false)) := by
  subst h
  simp [gv]
def rdKids : Nat → List UInt8 × Bool → List Int × (List UInt8 × Bool)
  | 0, s => ([], s)
  | k + 1, s => let r := rdKids k s; (r.1 ++ [(numN (gv 2 r.2).1 : Int)], (gv 2 r.2).2)
def rdEnts (lf : Bool) (kw vw : Nat) : Nat → List UInt8 × Bool → (List ByteArray × List ByteArray) × (List UInt8 × Bool)
  | 0, s => (([], []), s)
  | k + 1, s =>
    let r := rdEnts lf kw vw k s
    let a := gv kw r.2
    let b := if lf = true then gv vw a.2 else ([], a.2)
    ((r.1.1 ++ [⟨a.1.toArray⟩], if lf = true then r.1.2 ++ [⟨b.1.toArray⟩] else r.1.2), b.2)
/-- The node that bytes say, if they are a page. -/
def rdLf (l : List UInt8) : Bool := numN (gv 1 (l, false)).1 == 1
def rdS2 (l : List UInt8) : List UInt8 × Bool := (gv 1 (gv 1 (l, false)).2).2
def rdCnt (l : List UInt8) : Nat := min (numN (gv 2 (rdS2 l)).1) 508
def rdS3 (l : List UInt8) : List UInt8 × Bool := (gv 2 (rdS2 l)).2
def rdKd (l : List UInt8) : List Int × (List UInt8 × Bool) := if rdLf l = true then ([], rdS3 l) else rdKids (rdCnt l + 1) (rdS3 l)
def rdEn (kw vw : Nat) (l : List UInt8) : (List ByteArray × List ByteArray) × (List UInt8 × Bool) := rdEnts (rdLf l) kw vw (rdCnt l) (rdKd l).2
def readN (kw vw : Nat) (l : List UInt8) : Nd := ⟨rdLf l, (rdEn kw vw l).1.1, (rdEn kw vw l).1.2, (rdKd l).1⟩

theorem rdKids_app : ∀ (p : List Int) (b : List UInt8), (∀ c ∈ p, 0 ≤ c ∧ c < 65536) → rdKids p.length (kidL p ++ b, false) = (p, (b, false)) := by
  have H : ∀ (k : Nat) (p : List Int) (b : List UInt8), p.length = k → (∀ c ∈ p, 0 ≤ c ∧ c < 65536) → rdKids k (kidL p ++ b, false) = (p, (b, false)) := by
    intro k
    induction k with
    | zero => intro p b hp _; rw [List.eq_nil_of_length_eq_zero hp]; rfl
    | succ k ih =>
      intro p b hp hc
      rcases List.eq_nil_or_concat p with rfl | ⟨q, c, rfl⟩
      · cases hp
      rw [List.concat_eq_append] at hp hc ⊢
      have e : kidL (q ++ [c]) ++ b = kidL q ++ (beN 2 c.toNat ++ b) := by simp [kidL]
      have hcc := hc c (by simp)
      have hn : numN (beN 2 c.toNat) = c.toNat := numN_beN 2 _ (by show c.toNat < 65536; omega)
      rw [e, rdKids, ih q _ (by simpa using hp) (fun x hx => hc x (by simp [hx]))]
      simp only [gv_app (beN_length 2 _), hn]
      rw [Int.toNat_of_nonneg hcc.1]
  intro p b hc
  exact H _ p b rfl hc
theorem entL_snoc : ∀ (p q : List ByteArray) (k v : ByteArray), q.length = p.length → entL (p ++ [k]) (q ++ [v]) = entL p q ++ (byt k ++ byt v)
  | [], [], k, v, _ => by simp [entL]
  | [], _ :: _, _, _, h => by cases h
  | _ :: _, [], _, _, h => by cases h
  | a :: p, b :: q, k, v, h => by
    have := entL_snoc p q k v (by simpa using h)
    simp only [List.cons_append, entL, this, List.append_assoc]
theorem rdEnts_leaf {kw vw : Nat} (k : Nat) : ∀ (p q : List ByteArray) (b : List UInt8), p.length = k → q.length = k → (∀ x ∈ p, x.size = kw) → (∀ x ∈ q, x.size = vw) → rdEnts true kw vw k (entL p q ++ b, false) = ((p, q), (b, false)) := by
  induction k with
  | zero => intro p q b hp hq _ _; rw [List.eq_nil_of_length_eq_zero hp, List.eq_nil_of_length_eq_zero hq]; rfl
  | succ k ih =>
    intro p q b hp hq hk hv
    rcases List.eq_nil_or_concat p with rfl | ⟨p, x, rfl⟩
    · cases hp
    rcases List.eq_nil_or_concat q with rfl | ⟨q, y, rfl⟩
    · cases hq
    simp only [List.concat_eq_append, List.length_append, List.length_cons, List.length_nil, Nat.zero_add, Nat.add_right_cancel_iff] at hp hq
    rw [List.concat_eq_append] at hk hv ⊢
    rw [List.concat_eq_append, entL_snoc p q x y (by omega)]
    have e : entL p q ++ (byt x ++ byt y) ++ b = entL p q ++ (byt x ++ (byt y ++ b)) := by simp
    have hx : (byt x).length = kw := by rw [byt_len]; exact hk x (by simp)
    have hy : (byt y).length = vw := by rw [byt_len]; exact hv y (by simp)
    rw [e, rdEnts, ih p q _ hp hq (fun z hz => hk z (by simp [hz])) (fun z hz => hv z (by simp [hz]))]
    simp only [gv_app hx, if_true, gv_app hy, mk_byt]
theorem rdEnts_inner {kw vw : Nat} (k : Nat) : ∀ (p : List ByteArray) (b : List UInt8), p.length = k → (∀ x ∈ p, x.size = kw) → rdEnts false kw vw k (keyL p ++ b, false) = ((p, []), (b, false)) := by
  induction k with
  | zero => intro p b hp _; rw [List.eq_nil_of_length_eq_zero hp]; rfl
  | succ k ih =>
    intro p b hp hk
    rcases List.eq_nil_or_concat p with rfl | ⟨p, x, rfl⟩
    · cases hp
    simp only [List.concat_eq_append, List.length_append, List.length_cons, List.length_nil, Nat.zero_add, Nat.add_right_cancel_iff] at hp
    rw [List.concat_eq_append] at hk ⊢
    have e : keyL (p ++ [x]) ++ b = keyL p ++ (byt x ++ b) := by simp [keyL]
    have hx : (byt x).length = kw := by rw [byt_len]; exact hk x (by simp)
    rw [e, rdEnts, ih p _ hp (fun z hz => hk z (by simp [hz]))]
    simp only [gv_app hx, Bool.false_eq_true, if_false, mk_byt]
/-- A page is read as its node. -/
theorem read_page {kw vw : Nat} {n : Nd} (h : okB kw vw n = true) : readN kw vw (pageL n) = n := by
  obtain ⟨hk1, hk2, hk3⟩ := okB_keys h
  have e0 : pageL n = beN 1 (kindN n) ++ (beN 1 0 ++ (beN 2 n.keys.length ++ (kidL n.kids ++ (bodyL n ++ List.replicate (512 - (wordL n).length) 0)))) := by
    rw [pageL]
    generalize List.replicate (512 - (wordL n).length) 0 = z
    simp [wordL, headL]
  generalize hz : List.replicate (512 - (wordL n).length) (0 : UInt8) = z at e0
  have hkn : kindN n < 256 := by unfold kindN; split <;> omega
  have n1 : numN (beN 1 (kindN n)) = kindN n := numN_beN 1 _ hkn
  have n2 : numN (beN 2 n.keys.length) = n.keys.length := numN_beN 2 _ (by show _ < 65536; omega)
  have g1 : gv 1 (pageL n, false) = (beN 1 (kindN n), (beN 1 0 ++ (beN 2 n.keys.length ++ (kidL n.kids ++ (bodyL n ++ z))), false)) := by rw [e0]; exact gv_app (beN_length 1 _)
  have hlf : rdLf (pageL n) = n.leaf := by
    unfold rdLf
    rw [g1, n1]
    unfold kindN
    rcases n.leaf with _ | _ <;> rfl
  have hs2 : rdS2 (pageL n) = (beN 2 n.keys.length ++ (kidL n.kids ++ (bodyL n ++ z)), false) := by
    unfold rdS2
    rw [g1]
    rw [gv_app (beN_length 1 _)]
  have g3 : gv 2 (rdS2 (pageL n)) = (beN 2 n.keys.length, (kidL n.kids ++ (bodyL n ++ z), false)) := by rw [hs2]; exact gv_app (beN_length 2 _)
  have hc : rdCnt (pageL n) = n.keys.length := by
    unfold rdCnt
    rw [g3, n2]
    omega
  have hs3 : rdS3 (pageL n) = (kidL n.kids ++ (bodyL n ++ z), false) := by unfold rdS3; rw [g3]
  rcases hl : n.leaf with _ | _
  · obtain ⟨hs, _, h2, h3, h4, h6, h5⟩ := okB_inner h hl
    have hkd : rdKd (pageL n) = (n.kids, (bodyL n ++ z, false)) := by
      unfold rdKd
      rw [hlf, hl, hs3, hc, h3]
      exact rdKids_app _ _ fun c hc => by have := h6 c hc; omega
    have hen : rdEn kw vw (pageL n) = ((n.keys, []), (z, false)) := by
      unfold rdEn
      rw [hlf, hl, hc, hkd]
      have : bodyL n = keyL n.keys := by simp [bodyL, hl]
      rw [this]
      exact rdEnts_inner _ _ _ rfl fun x hx => by have := keysB_sizes h5 x hx; omega
    unfold readN
    rw [hlf, hen, hkd, hl]
    cases n
    simp_all
  · obtain ⟨hs, h1, h2, h3, h4, h5⟩ := okB_leaf h hl
    have hkd : rdKd (pageL n) = ([], (bodyL n ++ z, false)) := by
      unfold rdKd
      rw [hlf, hl, hs3, h3]
      rfl
    have hen : rdEn kw vw (pageL n) = ((n.keys, n.vals), (z, false)) := by
      unfold rdEn
      rw [hlf, hl, hc, hkd]
      have : bodyL n = entL n.keys n.vals := by simp [bodyL, hl]
      rw [this]
      exact rdEnts_leaf _ _ _ _ rfl h2 (fun x hx => by have := keysB_sizes h5 x hx; omega) (fun x hx => by have := h4 x hx; omega)
    unfold readN
    rw [hlf, hen, hkd, hl]
    cases n
    simp_all
end Go.Proofs.YtcgfnfejacgaeaaDoor
