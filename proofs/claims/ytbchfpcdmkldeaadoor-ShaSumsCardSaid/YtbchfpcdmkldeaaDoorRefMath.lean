/- The reference's wide numbers and roots, step by step as its text goes, and in a form that the kernel reckons fast. No condition. -/
namespace Go.Proofs.YtbchfpcdmkldeaaDoor

noncomputable def fy {α : Type} (x : Nat) (k : Nat → α) : α := Nat.rec (motive := fun _ => α) (k 0) (fun n _ => k (Nat.succ n)) x
theorem fy_eq {α : Type} (x : Nat) (k : Nat → α) : fy x k = k x := by cases x <;> rfl

/-! ### As the text goes -/
def innM (ai : Nat) (b : List Nat) (i : Nat) (o : List Nat) : Nat → List Nat × Nat
  | 0 => (o, 0)
  | k + 1 => ((innM ai b i o k).1.set (i + k) (((innM ai b i o k).1.getD (i + k) 0 + ai * b.getD k 0 + (innM ai b i o k).2) % 65536), ((innM ai b i o k).1.getD (i + k) 0 + ai * b.getD k 0 + (innM ai b i o k).2) / 65536)
def zero9 : List Nat := [0, 0, 0, 0, 0, 0, 0, 0, 0]
def outM (a b : List Nat) : Nat → List Nat
  | 0 => zero9
  | i + 1 => (innM (a.getD i 0) b i (outM a b i) (9 - i)).1
def timesM (a b : List Nat) : List Nat := outM a b 9
def wideM (n : Nat) : List Nat := [n % 65536, n / 65536 % 65536, n / 65536 / 65536 % 65536, n / 65536 / 65536 / 65536 % 65536, 0, 0, 0, 0, 0]
def lessM (a b : List Nat) : Nat → Bool
  | 0 => false
  | i + 1 => if a.getD i 0 = b.getD i 0 then lessM a b i else decide (a.getD i 0 < b.getD i 0)
def powM (x : List Nat) : Nat → List Nat
  | 0 => x
  | k + 1 => timesM (powM x k) x
/-- The bits from f on are settled: out. -/
def rootM (n : List Nat) (pw : Nat) : Nat → Nat
  | 0 => 0
  | k + 1 => if lessM n (powM (wideM (rootM n pw k + 2 ^ (36 - k))) (pw - 1)) 9 then rootM n pw k else rootM n pw k + 2 ^ (36 - k)
def rootOf (p pw : Nat) : Nat := rootM (zero9.set (2 * pw) p) pw 37 % 4294967296

/-! ### Groups of 16 bits, and the number that they make -/
def valL : List Nat → Nat
  | [] => 0
  | x :: r => x + 65536 * valL r
def Small (o : List Nat) : Prop := ∀ x ∈ o, x < 65536
theorem Small.get {o : List Nat} (h : Small o) (j : Nat) : o.getD j 0 < 65536 := by
  rw [List.getD_eq_getElem?_getD]
  cases hq : o[j]? with
  | none => simp
  | some x => exact h x (List.mem_of_getElem? hq)
theorem Small.set {o : List Nat} (h : Small o) (j v : Nat) (hv : v < 65536) : Small (o.set j v) := fun x hx => by
  rcases List.mem_or_eq_of_mem_set hx with hx | rfl
  · exact h x hx
  · exact hv
def dig (P j : Nat) : Nat := Nat.mod (Nat.shiftRight P (Nat.mul 16 j)) 65536
theorem pow16 (j : Nat) : 2 ^ (16 * j) = 65536 ^ j := by rw [Nat.pow_mul]
theorem dig_eq (o : List Nat) : ∀ j, Small o → dig (valL o) j = o.getD j 0 := by
  induction o with
  | nil =>
    intro j _
    show (valL [] >>> (16 * j)) % 65536 = 0
    simp [valL]
  | cons x r ih =>
    intro j h
    have hx : x < 65536 := h x (by simp)
    have hr : Small r := fun y hy => h y (by simp [hy])
    show ((x + 65536 * valL r) >>> (16 * j)) % 65536 = _
    cases j with
    | zero =>
      simp only [Nat.mul_zero, Nat.shiftRight_zero, List.getD_cons_zero]
      omega
    | succ j =>
      have := ih j hr
      rw [List.getD_cons_succ, ← this]
      show _ = (valL r >>> (16 * j)) % 65536
      congr 1
      rw [Nat.shiftRight_eq_div_pow, Nat.shiftRight_eq_div_pow, pow16, pow16, Nat.pow_succ', ← Nat.div_div_eq_div_mul]
      congr 1
      omega
theorem val_set (o : List Nat) : ∀ j v, j < o.length → valL (o.set j v) + o.getD j 0 * 65536 ^ j = valL o + v * 65536 ^ j := by
  induction o with
  | nil => intro j v h; simp at h
  | cons x r ih =>
    intro j v h
    cases j with
    | zero => simp [valL]; omega
    | succ j =>
      have := ih j v (by simpa using h)
      simp only [List.set_cons_succ, valL, List.getD_cons_succ, Nat.pow_succ]
      rw [← Nat.mul_assoc, ← Nat.mul_assoc]
      omega
/-- v in the place of group j. -/
def putK (P j v : Nat) : Nat := Nat.add (Nat.sub P (Nat.mul (dig P j) (Nat.pow 2 (Nat.mul 16 j)))) (Nat.mul v (Nat.pow 2 (Nat.mul 16 j)))
theorem put_eq (o : List Nat) (j v : Nat) (hs : Small o) (hj : j < o.length) : putK (valL o) j v = valL (o.set j v) := by
  have h1 := val_set o j v hj
  have h2 := val_set o j 0 hj
  show valL o - dig (valL o) j * 2 ^ (16 * j) + v * 2 ^ (16 * j) = _
  rw [dig_eq o j hs, pow16]
  omega

/-! ### The kernel's own steps -/
noncomputable def innK {α : Type} (ai B i : Nat) (m : Nat) : Nat → Nat → Nat → (Nat → Nat → α) → α :=
  Nat.rec (motive := fun _ => Nat → Nat → Nat → (Nat → Nat → α) → α)
    (fun _ P c k => k P c)
    (fun _ ih j P c k => fy (Nat.add (Nat.add (dig P (Nat.add i j)) (Nat.mul ai (dig B j))) c) fun n => fy (putK P (Nat.add i j) (Nat.mod n 65536)) fun P' => fy (Nat.div n 65536) fun c' => fy (Nat.add j 1) fun j' => ih j' P' c' k) m
theorem innK_succ {α : Type} (ai B i m j P c : Nat) (k : Nat → Nat → α) : innK ai B i (m + 1) j P c k = fy (Nat.add (Nat.add (dig P (Nat.add i j)) (Nat.mul ai (dig B j))) c) fun n => fy (putK P (Nat.add i j) (Nat.mod n 65536)) fun P' => fy (Nat.div n 65536) fun c' => fy (Nat.add j 1) fun j' => innK ai B i m j' P' c' k := rfl
theorem innM_length (ai : Nat) (b : List Nat) (i : Nat) (o : List Nat) (k : Nat) : (innM ai b i o k).1.length = o.length := by
  induction k with
  | zero => rfl
  | succ k ih => rw [innM, List.length_set, ih]
theorem innM_small (ai : Nat) (b : List Nat) (i : Nat) (o : List Nat) (k : Nat) (h : Small o) : Small (innM ai b i o k).1 := by
  induction k with
  | zero => exact h
  | succ k ih => exact ih.set _ _ (Nat.mod_lt _ (by decide))
theorem innK_eq {α : Type} (ai : Nat) (b o : List Nat) (i : Nat) (hb : Small b) (ho : Small o) (m : Nat) : ∀ (j : Nat) (k : Nat → Nat → α), i + (j + m) ≤ o.length →
    innK ai (valL b) i m j (valL (innM ai b i o j).1) (innM ai b i o j).2 k = k (valL (innM ai b i o (j + m)).1) (innM ai b i o (j + m)).2 := by
  induction m with
  | zero => exact fun j k _ => rfl
  | succ m ih =>
    intro j k hl
    have := ih (j + 1) k (by omega)
    rw [show j + (m + 1) = j + 1 + m by omega, ← this]
    rw [innK_succ]
    simp only [fy_eq]
    have e1 := dig_eq _ (i + j) (innM_small ai b i o j ho)
    have e2 := dig_eq _ j hb
    show innK ai (valL b) i m (j + 1) (putK (valL (innM ai b i o j).1) (i + j) ((dig (valL (innM ai b i o j).1) (i + j) + ai * dig (valL b) j + (innM ai b i o j).2) % 65536)) ((dig (valL (innM ai b i o j).1) (i + j) + ai * dig (valL b) j + (innM ai b i o j).2) / 65536) k = _
    rw [e1, e2, put_eq _ _ _ (innM_small ai b i o j ho) (by rw [innM_length]; omega)]
    rfl
noncomputable def outK {α : Type} (A B : Nat) (m : Nat) : Nat → Nat → (Nat → α) → α :=
  Nat.rec (motive := fun _ => Nat → Nat → (Nat → α) → α)
    (fun _ P k => k P)
    (fun _ ih i P k => fy (dig A i) fun ai => fy (Nat.sub 9 i) fun r => innK ai B i r 0 P 0 fun P' _ => fy (Nat.add i 1) fun i' => ih i' P' k) m
theorem outK_succ {α : Type} (A B m i P : Nat) (k : Nat → α) : outK A B (m + 1) i P k = fy (dig A i) fun ai => fy (Nat.sub 9 i) fun r => innK ai B i r 0 P 0 fun P' _ => fy (Nat.add i 1) fun i' => outK A B m i' P' k := rfl
theorem outM_length (a b : List Nat) (i : Nat) : (outM a b i).length = 9 := by
  induction i with
  | zero => rfl
  | succ i ih => rw [outM, innM_length, ih]
theorem outM_small (a b : List Nat) (i : Nat) : Small (outM a b i) := by
  induction i with
  | zero => intro x hx; simp [outM, zero9] at hx; omega
  | succ i ih => exact innM_small _ _ _ _ _ ih
theorem outK_eq {α : Type} (a b : List Nat) (ha : Small a) (hb : Small b) (m : Nat) : ∀ (i : Nat) (k : Nat → α), i + m ≤ 9 → outK (valL a) (valL b) m i (valL (outM a b i)) k = k (valL (outM a b (i + m))) := by
  induction m with
  | zero => exact fun i k _ => rfl
  | succ m ih =>
    intro i k hl
    have := ih (i + 1) k (by omega)
    rw [show i + (m + 1) = i + 1 + m by omega, ← this]
    rw [outK_succ]
    simp only [fy_eq]
    have e := innK_eq (a.getD i 0) b (outM a b i) i hb (outM_small a b i) (9 - i) 0 (fun P' _ => outK (valL a) (valL b) m (i + 1) P' k) (by rw [outM_length]; omega)
    rw [dig_eq a i ha]
    refine Eq.trans e ?_
    rw [Nat.zero_add]
    rfl
theorem timesK_eq {α : Type} (a b : List Nat) (ha : Small a) (hb : Small b) (k : Nat → α) : outK (valL a) (valL b) 9 0 0 k = k (valL (timesM a b)) :=
  outK_eq a b ha hb 9 0 k (by decide)
noncomputable def sel {α : Type} (b : Bool) (t e : α) : α := Bool.rec (motive := fun _ => α) e t b
noncomputable def lessK (A B : Nat) (i : Nat) : Bool := Nat.rec (motive := fun _ => Bool) false (fun i ih => sel (Nat.beq (dig A i) (dig B i)) ih (Nat.blt (dig A i) (dig B i))) i
theorem lessK_eq (a b : List Nat) (ha : Small a) (hb : Small b) (i : Nat) : lessK (valL a) (valL b) i = lessM a b i := by
  induction i with
  | zero => rfl
  | succ i ih =>
    show sel (Nat.beq (dig (valL a) i) (dig (valL b) i)) (lessK (valL a) (valL b) i) (Nat.blt (dig (valL a) i) (dig (valL b) i)) = _
    rw [dig_eq a i ha, dig_eq b i hb, ih, lessM]
    by_cases h : a.getD i 0 = b.getD i 0
    · rw [if_pos h, h, Nat.beq_refl]
      rfl
    · rw [if_neg h]
      have hf : Nat.beq (a.getD i 0) (b.getD i 0) = false := by
        cases hq : Nat.beq (a.getD i 0) (b.getD i 0)
        · rfl
        · exact absurd (Nat.eq_of_beq_eq_true hq) h
      rw [hf]
      show Nat.blt _ _ = _
      rw [Bool.eq_iff_iff, Nat.blt_eq, decide_eq_true_eq]
theorem wide_val (n : Nat) (h : n < 18446744073709551616) : valL (wideM n) = n := by
  simp only [wideM, valL]
  omega
theorem wide_small (n : Nat) : Small (wideM n) := by
  intro x hx
  simp only [wideM, List.mem_cons, List.not_mem_nil, or_false] at hx
  omega
theorem pow_small (x : List Nat) (h : Small x) (k : Nat) : Small (powM x k) := by
  cases k with
  | zero => exact h
  | succ k => exact outM_small _ _ _
/-- The power by the kernel: of a square or a cube. -/
noncomputable def powK {α : Type} (X : Nat) (m : Nat) : Nat → (Nat → α) → α :=
  Nat.rec (motive := fun _ => Nat → (Nat → α) → α) (fun P k => k P) (fun _ ih P k => outK P X 9 0 0 fun P' => ih P' k) m
theorem powK_eq {α : Type} (x : List Nat) (hx : Small x) (m : Nat) : ∀ (j : Nat) (k : Nat → α), powK (valL x) m (valL (powM x j)) k = k (valL (powM x (j + m))) := by
  induction m with
  | zero => exact fun j k => rfl
  | succ m ih =>
    intro j k
    have := ih (j + 1) k
    rw [show j + (m + 1) = j + 1 + m by omega, ← this]
    show outK (valL (powM x j)) (valL x) 9 0 0 (fun P' => powK (valL x) m P' k) = _
    rw [timesK_eq _ _ (pow_small x hx j) hx]
    rfl
noncomputable def rootK (N pw : Nat) (m : Nat) : Nat → Nat → Nat :=
  Nat.rec (motive := fun _ => Nat → Nat → Nat)
    (fun _ out => out)
    (fun _ ih j out => fy (Nat.add out (Nat.pow 2 (Nat.sub 36 j))) fun x => powK x (Nat.sub pw 1) x fun P => fy (Nat.add j 1) fun j' => sel (lessK N P 9) (ih j' out) (ih j' x)) m
theorem rootK_succ (N pw m j out : Nat) : rootK N pw (m + 1) j out = fy (Nat.add out (Nat.pow 2 (Nat.sub 36 j))) fun x => powK x (Nat.sub pw 1) x fun P => fy (Nat.add j 1) fun j' => sel (lessK N P 9) (rootK N pw m j' out) (rootK N pw m j' x) := rfl
theorem rootM_lt (n : List Nat) (pw k : Nat) : rootM n pw k ≤ k * 68719476736 := by
  induction k with
  | zero => exact Nat.le_refl _
  | succ k ih =>
    have h : 2 ^ (36 - k) ≤ 68719476736 := (Nat.pow_le_pow_right (n := 2) (by decide) (show 36 - k ≤ 36 by omega) : 2 ^ (36 - k) ≤ 2 ^ 36)
    rw [rootM, Nat.add_mul, Nat.one_mul]
    split
    · exact Nat.le_trans ih (Nat.le_add_right _ _)
    · exact Nat.add_le_add ih h
theorem rootK_eq (n : List Nat) (hn : Small n) (pw : Nat) (m : Nat) : ∀ j, j + m ≤ 37 → rootK (valL n) pw m j (rootM n pw j) = rootM n pw (j + m) := by
  induction m with
  | zero => exact fun j _ => rfl
  | succ m ih =>
    intro j hj
    have := ih (j + 1) (by omega)
    rw [show j + (m + 1) = j + 1 + m by omega, ← this]
    rw [rootK_succ]
    simp only [fy_eq]
    have hlt : rootM n pw j + 2 ^ (36 - j) < 18446744073709551616 := by
      have h1 := rootM_lt n pw j
      have h2 : 2 ^ (36 - j) ≤ 68719476736 := (Nat.pow_le_pow_right (n := 2) (by decide) (show 36 - j ≤ 36 by omega) : 2 ^ (36 - j) ≤ 2 ^ 36)
      have h3 : j * 68719476736 ≤ 37 * 68719476736 := Nat.mul_le_mul_right _ (by omega)
      omega
    have e := powK_eq (α := Nat) (wideM (rootM n pw j + 2 ^ (36 - j))) (wide_small _) (pw - 1) 0
      (fun P => sel (lessK (valL n) P 9) (rootK (valL n) pw m (j + 1) (rootM n pw j)) (rootK (valL n) pw m (j + 1) (rootM n pw j + 2 ^ (36 - j))))
    rw [show powM (wideM (rootM n pw j + 2 ^ (36 - j))) 0 = wideM (rootM n pw j + 2 ^ (36 - j)) from rfl, wide_val _ hlt, lessK_eq n _ hn (pow_small _ (wide_small _) _), Nat.zero_add] at e
    refine Eq.trans e ?_
    rw [rootM]
    cases hq : lessM n (powM (wideM (rootM n pw j + 2 ^ (36 - j))) (pw - 1)) 9
    · rw [if_neg (by decide)]; rfl
    · rw [if_pos rfl]; rfl
theorem root_of (p pw r : Nat) (hp : p < 65536) (h : Nat.mod (rootK (valL (zero9.set (2 * pw) p)) pw 37 0 0) 4294967296 = r) : rootOf p pw = r := by
  have hs : Small (zero9.set (2 * pw) p) := Small.set (fun x hx => by simp [zero9] at hx; omega) _ _ hp
  rw [rootOf, ← h]
  have := rootK_eq _ hs pw 37 0 (by decide)
  rw [Nat.zero_add] at this
  rw [← this]
  rfl
end Go.Proofs.YtbchfpcdmkldeaaDoor
