/- The division of polynomials behind the checksum, on natural numbers: one step, its linearity, that a step forgets nothing below 2^32, and what bits side by side do to it. Plain arithmetic, no program. -/
namespace Go.Proofs.YtcgfnfejacgaeaaDoor

def poly : Nat := 2197175160
/-- One step of the division. -/
def st1 (m : Nat) : Nat := m / 2 ^^^ (if m % 2 = 1 then poly else 0)
def stN : Nat → Nat → Nat
  | 0, m => m
  | k + 1, m => stN k (st1 m)
/-- Bytes as one number, the first byte lowest. -/
def leN : List UInt8 → Nat
  | [] => 0
  | x :: l => x.toNat ^^^ (leN l * 256)
/-- The rest behind some bytes. -/
def rest (s : Nat) (l : List UInt8) : Nat := l.foldl (fun r x => stN 8 (r ^^^ x.toNat)) s
/-- The checksum. -/
def crcN (l : List UInt8) : Nat := 4294967295 - rest 4294967295 l

theorem xor_mod2 (a b : Nat) : (a ^^^ b) % 2 = (a % 2 + b % 2) % 2 := by
  have h : (a ^^^ b) % 2 ^ 1 = a % 2 ^ 1 ^^^ b % 2 ^ 1 := Nat.xor_mod_two_pow
  rw [show (2 : Nat) ^ 1 = 2 by decide] at h
  rw [h]
  rcases Nat.mod_two_eq_zero_or_one a with ha | ha <;> rcases Nat.mod_two_eq_zero_or_one b with hb | hb <;> simp [ha, hb]
theorem st1_xor (a b : Nat) : st1 (a ^^^ b) = st1 a ^^^ st1 b := by
  have hd : (a ^^^ b) / 2 = a / 2 ^^^ b / 2 := Nat.xor_div_two
  have hm := xor_mod2 a b
  unfold st1
  rw [hd, hm]
  rcases Nat.mod_two_eq_zero_or_one a with ha | ha <;> rcases Nat.mod_two_eq_zero_or_one b with hb | hb <;> simp [ha, hb]
  · rw [Nat.xor_assoc]
  · rw [Nat.xor_assoc, Nat.xor_assoc, Nat.xor_comm poly]
  · rw [Nat.xor_assoc, Nat.xor_comm poly (b / 2 ^^^ poly), Nat.xor_assoc (b / 2), Nat.xor_self, Nat.xor_zero]
theorem st1_zero : st1 0 = 0 := by decide
theorem stN_zero : ∀ k, stN k 0 = 0
  | 0 => rfl
  | k + 1 => by rw [stN, st1_zero, stN_zero k]
theorem stN_xor : ∀ k a b, stN k (a ^^^ b) = stN k a ^^^ stN k b
  | 0, _, _ => rfl
  | k + 1, a, b => by rw [stN, st1_xor, stN_xor k]; rfl
theorem stN_add : ∀ j k m, stN (j + k) m = stN k (stN j m)
  | 0, k, m => by rw [Nat.zero_add]; rfl
  | j + 1, k, m => by rw [show j + 1 + k = (j + k) + 1 by omega, stN, stN_add j k]; rfl
theorem st1_even (m : Nat) : st1 (m * 2) = m := by unfold st1; simp
theorem stN_shift : ∀ k m, stN k (m * 2 ^ k) = m
  | 0, m => by simp [stN]
  | k + 1, m => by rw [stN, Nat.pow_succ, ← Nat.mul_assoc, st1_even, stN_shift k]
theorem st1_lt (m : Nat) (h : m < 4294967296) : st1 m < 4294967296 := by
  unfold st1
  have e : (4294967296 : Nat) = 2 ^ 32 := by decide
  rw [e] at *
  refine Nat.xor_lt_two_pow (by omega) ?_
  split <;> decide
theorem stN_lt : ∀ k m, m < 4294967296 → stN k m < 4294967296
  | 0, _, h => h
  | k + 1, m, h => stN_lt k _ (st1_lt m h)
theorem xor_zero_eq (a b : Nat) (h : a ^^^ b = 0) : a = b := by
  have := congrArg (fun y => y ^^^ b) h
  simpa [Nat.xor_assoc] using this
theorem st1_inj (m : Nat) (h : m < 4294967296) (h0 : st1 m = 0) : m = 0 := by
  unfold st1 at h0
  by_cases ho : m % 2 = 1
  · rw [if_pos ho] at h0
    have := xor_zero_eq _ _ h0
    unfold poly at this
    omega
  · rw [if_neg ho, Nat.xor_zero] at h0
    omega
theorem stN_inj : ∀ k m, m < 4294967296 → stN k m = 0 → m = 0
  | 0, _, _, h0 => h0
  | k + 1, m, h, h0 => st1_inj m h (stN_inj k _ (st1_lt m h) h0)

/-- Four steps by one look-up. -/
theorem xor_low (q r : Nat) (k : Nat) (h : r < 2 ^ k) : q * 2 ^ k + r = (q * 2 ^ k) ^^^ r := by
  have h1 := Nat.shiftLeft_add_eq_or_of_lt h q
  rw [Nat.shiftLeft_eq] at h1
  rw [h1]
  apply Nat.eq_of_testBit_eq
  intro i
  rw [Nat.testBit_or, Nat.testBit_xor]
  by_cases hi : i < k
  · have : (q * 2 ^ k).testBit i = false := by rw [Nat.testBit_mul_two_pow]; simp; omega
    rw [this]; simp
  · have : r.testBit i = false := Nat.testBit_lt_two_pow (Nat.lt_of_lt_of_le h (Nat.pow_le_pow_right (by omega) (by omega)))
    rw [this]; simp
def tab (i : Nat) : Nat := stN 4 i
theorem stN_four (m : Nat) : stN 4 m = m / 16 ^^^ tab (m % 16) := by
  have h := xor_low (m / 16) (m % 16) 4 (Nat.mod_lt _ (by decide))
  have e : m / 16 * 2 ^ 4 + m % 16 = m := by omega
  rw [e] at h
  conv => lhs; rw [h, stN_xor, stN_shift 4]
  rfl

theorem rest_lt (s : Nat) (l : List UInt8) (hs : s < 4294967296) : rest s l < 4294967296 := by
  induction l generalizing s with
  | nil => exact hs
  | cons x l ih =>
    refine ih _ (stN_lt 8 _ ?_)
    have : x.toNat < 2 ^ 32 := Nat.lt_trans x.toNat_lt (by decide)
    exact Nat.xor_lt_two_pow (n := 32) hs this
theorem rest_append (s : Nat) (l m : List UInt8) : rest s (l ++ m) = rest (rest s l) m := List.foldl_append ..
theorem rest_snoc (s : Nat) (l : List UInt8) (x : UInt8) : rest s (l ++ [x]) = stN 8 (rest s l ^^^ x.toNat) := by rw [rest_append]; rfl
theorem rest_eq (s : Nat) (l : List UInt8) : rest s l = stN (8 * l.length) (s ^^^ leN l) := by
  induction l generalizing s with
  | nil => simp [rest, leN, stN]
  | cons x l ih =>
    show rest (stN 8 (s ^^^ x.toNat)) l = _
    have h8 := stN_shift 8 (leN l)
    rw [show (2 : Nat) ^ 8 = 256 by decide] at h8
    rw [ih, leN, List.length_cons, show 8 * (l.length + 1) = 8 + 8 * l.length by omega, stN_add, ← Nat.xor_assoc, stN_xor 8 _ (leN l * 256), h8]
theorem xor_ones (n : Nat) (h : n < 4294967296) : 4294967295 - n = 4294967295 ^^^ n := by
  apply Nat.eq_of_testBit_eq
  intro i
  have e : (4294967295 : Nat) = 2 ^ 32 - 1 := by decide
  have h2 : (2 ^ 32 - 1 - n).testBit i = (decide (i < 32) && !n.testBit i) := by
    have := Nat.testBit_two_pow_sub_succ (n := 32) (x := n) (by simpa using h) i
    rw [← this]
    congr 1
    omega
  rw [e, h2, Nat.testBit_xor, Nat.testBit_two_pow_sub_one]
  by_cases hi : i < 32
  · simp [hi]
  · have : n.testBit i = false := Nat.testBit_lt_two_pow (Nat.lt_of_lt_of_le (show n < 2 ^ 32 by simpa using h) (Nat.pow_le_pow_right (by omega) (by omega)))
    simp [hi, this]
theorem crcN_lt (l : List UInt8) : crcN l < 4294967296 := by unfold crcN; omega

/-- The lowest four bytes of a number. -/
def le4 (n : Nat) : List UInt8 := [UInt8.ofNat n, UInt8.ofNat (n / 256), UInt8.ofNat (n / 65536), UInt8.ofNat (n / 16777216)]
theorem leN_le4 (n : Nat) (h : n < 4294967296) : leN (le4 n) = n := by
  have s (r q : Nat) (hr : r < 256) : r ^^^ (q * 256) = q * 256 + r := by rw [Nat.xor_comm]; exact (xor_low q r 8 hr).symm
  simp only [le4, leN, UInt8.toNat_ofNat', Nat.zero_mul, Nat.xor_zero]
  rw [s _ _ (Nat.mod_lt _ (by decide)), s _ _ (Nat.mod_lt _ (by decide)), s _ _ (Nat.mod_lt _ (by decide))]
  omega
theorem crc_behind (l : List UInt8) : crcN (l ++ le4 (crcN l)) = 1214729159 := by
  have hr := rest_lt 4294967295 l (by decide)
  have hc := crcN_lt l
  have e : rest 4294967295 (l ++ le4 (crcN l)) = stN 32 4294967295 := by
    rw [rest_append, rest_eq _ (le4 (crcN l)), leN_le4 _ hc]
    show stN 32 _ = _
    congr 1
    unfold crcN
    rw [xor_ones _ hr, Nat.xor_comm 4294967295, ← Nat.xor_assoc, Nat.xor_self, Nat.zero_xor]
  have e2 : stN 32 4294967295 = 3080238136 := by decide +kernel
  show 4294967295 - rest _ _ = _
  rw [e, e2]

theorem leN_inj : ∀ (a b : List UInt8), a.length = b.length → leN a = leN b → a = b
  | [], [], _, _ => rfl
  | [], _ :: _, h, _ => by simp at h
  | _ :: _, [], h, _ => by simp at h
  | x :: a, y :: b, h, e => by
    have s (r q : Nat) (hr : r < 256) : r ^^^ (q * 256) = q * 256 + r := by rw [Nat.xor_comm]; exact (xor_low q r 8 hr).symm
    rw [leN, leN, s _ _ x.toNat_lt, s _ _ y.toNat_lt] at e
    have hx := x.toNat_lt
    have hy := y.toNat_lt
    have e1 : x.toNat = y.toNat := by omega
    have e2 : leN a = leN b := by omega
    rw [UInt8.toNat_inj.1 e1, leN_inj a b (by simpa using h) e2]
theorem leN_set : ∀ (l : List UInt8) (j r : Nat) (hj : j < l.length), r < 8 → leN (l.set j (l[j] ^^^ UInt8.ofNat (2 ^ r))) = leN l ^^^ 2 ^ (8 * j + r)
  | [], j, r, hj, _ => by simp at hj
  | x :: l, 0, r, hj, hr => by
    simp only [List.set_cons_zero, List.getElem_cons_zero, leN, UInt8.toNat_xor, UInt8.toNat_ofNat']
    have : 2 ^ r % 2 ^ 8 = 2 ^ r := Nat.mod_eq_of_lt (Nat.pow_lt_pow_right (by omega) (by omega))
    rw [this, Nat.mul_zero, Nat.zero_add, Nat.xor_assoc, Nat.xor_comm (2 ^ r), ← Nat.xor_assoc]
  | x :: l, j + 1, r, hj, hr => by
    have ih := leN_set l j r (by simpa using hj) hr
    simp only [List.set_cons_succ, List.getElem_cons_succ, leN]
    rw [ih]
    have e : (leN l ^^^ 2 ^ (8 * j + r)) * 256 = leN l * 256 ^^^ 2 ^ (8 * (j + 1) + r) := by
      have := Nat.shiftLeft_xor_distrib (a := leN l) (b := 2 ^ (8 * j + r)) (i := 8)
      simp only [Nat.shiftLeft_eq] at this
      rw [show (256 : Nat) = 2 ^ 8 by decide, this, ← Nat.pow_add]
      congr 2
      omega
    rw [e, Nat.xor_assoc]
/-- What differs by bits of 32 side by side has another checksum, or is the same. -/
theorem crc_tells (a b : List UInt8) (t c : Nat) (hl : a.length = b.length) (ht : t ≤ 8 * b.length) (hc : c < 4294967296) (h : leN a = leN b ^^^ c * 2 ^ t) : crcN a = crcN b ↔ a = b := by
  constructor
  · intro e
    have ha := rest_lt 4294967295 a (by decide)
    have hb := rest_lt 4294967295 b (by decide)
    unfold crcN at e
    have e' : rest 4294967295 a = rest 4294967295 b := by omega
    rw [rest_eq, rest_eq, hl, h, ← Nat.xor_assoc, stN_xor] at e'
    generalize hx : stN (8 * b.length) (4294967295 ^^^ leN b) = x at e'
    have e2 : stN (8 * b.length) (c * 2 ^ t) = 0 := by
      have := congrArg (fun y => x ^^^ y) e'
      simpa [← Nat.xor_assoc] using this
    obtain ⟨k, hk⟩ : ∃ k, 8 * b.length = t + k := ⟨_, (Nat.add_sub_cancel' ht).symm⟩
    rw [hk, stN_add, stN_shift] at e2
    have c0 := stN_inj _ _ hc e2
    rw [c0, Nat.zero_mul, Nat.xor_zero] at h
    exact leN_inj a b hl h
  · intro e; rw [e]

/-- A byte's eight bits one by one, as the document says it. -/
theorem ref_step (n c : Nat) : ((if (n % 2 + c % 2) % 2 = 1 then n / 2 ^^^ poly else n / 2) ^^^ c / 2) = st1 (n ^^^ c) := by
  unfold st1
  rw [xor_mod2 n c, Nat.xor_div_two]
  split
  · rw [Nat.xor_assoc, Nat.xor_comm poly, Nat.xor_assoc]
  · rw [Nat.xor_zero]
theorem stN_succ (k m : Nat) : stN (k + 1) m = st1 (stN k m) := by rw [stN_add k 1]; rfl
end Go.Proofs.YtcgfnfejacgaeaaDoor
