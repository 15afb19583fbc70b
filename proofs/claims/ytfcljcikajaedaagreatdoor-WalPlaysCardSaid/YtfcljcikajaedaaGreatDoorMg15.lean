/- A log of sheets behind two heads, in the document's words: plain lists and numbers, no program. No condition. -/
import Derived.Test.YtfcljcikajaedaaGreatDoorMg2
import Derived.Test.YtfcljcikajaedaaGreatDoorMg12
import Derived.Test.YtfcljcikajaedaaGreatDoorMg10
import Derived.Test.YtfcljcikajaedaaGreatDoorMg8
namespace Go.Proofs.YtfcljcikajaedaaGreatDoor

/-- A head. -/
structure Hd where
  g : Nat
  f : Nat
  n : Nat
  note : List UInt8

def hbody (h : Hd) : List UInt8 := beN 8 h.g ++ beN 8 h.f ++ beN 2 h.n ++ (UInt8.ofNat h.note.length :: h.note) ++ List.replicate (489 - h.note.length) 0
def hsec (h : Hd) : List UInt8 := hbody h ++ beN 4 (crcN (hbody h))
theorem hbody_length (h : Hd) (hn : h.note.length ≤ 64) : (hbody h).length = 508 := by
  simp [hbody, beN_length]; omega
theorem hsec_length (h : Hd) (hn : h.note.length ≤ 64) : (hsec h).length = 512 := by
  simp [hsec, hbody_length h hn, beN_length]

/-- What stands in a head's places. -/
def kg (l : List UInt8) : Nat := numN (l.take 8)
def kf (l : List UInt8) : Nat := numN ((l.drop 8).take 8)
def kn (l : List UInt8) : Nat := numN ((l.drop 16).take 2)
def kk (l : List UInt8) : Nat := (l.getD 18 0).toNat
def kt (l : List UInt8) : List UInt8 := (l.drop 19).take (kk l)
def khd (l : List UInt8) : Hd := ⟨kg l, kf l, kn l, kt l⟩
/-- The head of bytes, if they are a head's sector. -/
def headS (l : List UInt8) : Option Hd := if l.length = 512 ∧ 96 ≤ kn l ∧ kn l ≤ 512 ∧ kk l ≤ 64 ∧ hsec (khd l) = l then some (khd l) else none
/-- .. whatever number of sectors it says. -/
def rheadS (l : List UInt8) : Option Hd := if l.length = 512 ∧ kk l ≤ 64 ∧ hsec (khd l) = l then some (khd l) else none

/-- What a head may be. -/
structure Hd.ok (h : Hd) : Prop where
  g_ : h.g < 18446744073709551616
  f_ : h.f < 18446744073709551616
  lo : 96 ≤ h.n
  hi : h.n ≤ 512
  note_ : h.note.length ≤ 64

theorem hsec_eq (h : Hd) : ∃ r, hsec h = beN 8 h.g ++ (beN 8 h.f ++ (beN 2 h.n ++ (UInt8.ofNat h.note.length :: (h.note ++ r)))) := by
  unfold hsec
  generalize crcN (hbody h) = c
  exact ⟨List.replicate (489 - h.note.length) 0 ++ beN 4 c, by simp only [hbody, List.append_assoc, List.cons_append]⟩
theorem khd_hsec (h : Hd) (ok : h.ok) : khd (hsec h) = h ∧ kk (hsec h) = h.note.length := by
  obtain ⟨r, hr⟩ := hsec_eq h
  have h1 : kg (hsec h) = h.g := by
    unfold kg
    rw [hr, List.take_left' (beN_length 8 _)]
    exact numN_beN 8 _ (by have := ok.g_; simpa using this)
  have h2 : kf (hsec h) = h.f := by
    unfold kf
    rw [hr, List.drop_left' (beN_length 8 _), List.take_left' (beN_length 8 _)]
    exact numN_beN 8 _ (by have := ok.f_; simpa using this)
  have h3 : kn (hsec h) = h.n := by
    unfold kn
    rw [hr, show (16 : Nat) = 8 + 8 by rfl, ← List.drop_drop, List.drop_left' (beN_length 8 _), List.drop_left' (beN_length 8 _), List.take_left' (beN_length 2 _)]
    exact numN_beN 2 _ (by have := ok.hi; omega)
  have hd : (hsec h).drop 18 = UInt8.ofNat h.note.length :: (h.note ++ r) := by
    rw [hr, show (18 : Nat) = 8 + (8 + 2) by rfl, ← List.drop_drop, List.drop_left' (beN_length 8 _), ← List.drop_drop, List.drop_left' (beN_length 8 _), List.drop_left' (beN_length 2 _)]
  have h4 : kk (hsec h) = h.note.length := by
    unfold kk
    have : (hsec h)[18]? = some (UInt8.ofNat h.note.length) := by
      have := congrArg (fun l : List UInt8 => l[0]?) hd
      simpa using this
    rw [List.getD, this]
    have := ok.note_
    simp
    omega
  have h5 : kt (hsec h) = h.note := by
    unfold kt
    rw [h4, show (19 : Nat) = 18 + 1 by rfl, ← List.drop_drop, hd]
    simp
  refine ⟨?_, h4⟩
  unfold khd
  rw [h1, h2, h3, h5]
theorem headS_hsec (h : Hd) (ok : h.ok) : headS (hsec h) = some h := by
  obtain ⟨e, ek⟩ := khd_hsec h ok
  unfold headS
  have en : kn (hsec h) = h.n := congrArg Hd.n e
  rw [e, en, ek, if_pos ⟨hsec_length h ok.note_, ok.lo, ok.hi, ok.note_, rfl⟩]
theorem numN_take_lt (l : List UInt8) (k : Nat) : numN (l.take k) < 256 ^ k := by
  have h1 := numN_lt (l.take k)
  exact Nat.lt_of_lt_of_le h1 (Nat.pow_le_pow_right (by omega) (by simp; omega))
theorem headS_some {l : List UInt8} {h : Hd} (hh : headS l = some h) : l.length = 512 ∧ h = khd l ∧ h.ok ∧ hsec h = l := by
  unfold headS at hh
  split at hh
  · next c =>
    injection hh with hh
    subst hh
    refine ⟨c.1, rfl, ⟨?_, ?_, c.2.1, c.2.2.1, ?_⟩, c.2.2.2.2⟩
    · exact Nat.lt_of_lt_of_le (numN_take_lt _ 8) (by decide)
    · exact Nat.lt_of_lt_of_le (numN_take_lt _ 8) (by decide)
    · show ((l.drop 19).take (kk l)).length ≤ 64
      have := c.2.2.2.1
      simp
      omega
  · cases hh
theorem headS_r {l : List UInt8} {h : Hd} (hh : headS l = some h) : rheadS l = some h := by
  unfold headS at hh
  split at hh
  · next c => injection hh with hh; subst hh; unfold rheadS; rw [if_pos ⟨c.1, c.2.2.2.1, c.2.2.2.2⟩]
  · cases hh
theorem headS_nil : headS [] = none := by decide
/-- The head that counts, and its sector. -/
def countS (a b : Option Hd) : Option (Hd × Nat) := match a, b with
  | some x, some y => if x.g < y.g then some (y, 1) else some (x, 0)
  | some x, none => some (x, 0)
  | none, some y => some (y, 1)
  | none, none => none

/-- The sheet of a number, in its place of n behind two. -/
def sheetF (V : Nat → List UInt8) (n q : Nat) : Option Sh := match takeS (V (2 + q % n)) with
  | some s => if s.q = q then some s else none
  | none => none
theorem sheetF_q {V : Nat → List UInt8} {n q : Nat} {s : Sh} (h : sheetF V n q = some s) : s.q = q ∧ takeS (V (2 + q % n)) = some s := by
  unfold sheetF at h
  split at h
  · next s' e =>
    split at h
    · next e2 => injection h with h; subst h; exact ⟨e2, e⟩
    · cases h
  · cases h
theorem takeS_lt {l : List UInt8} {s : Sh} (h : takeS l = some s) : s.q < 18446744073709551616 ∧ s.t.length ≤ 497 := by
  obtain ⟨_, h2, _, rfl⟩ := takeS_some h
  refine ⟨Nat.lt_of_lt_of_le (numN_take_lt _ 8) (by decide), ?_⟩
  show ((l.drop 11).take (tn l)).length ≤ 497
  simp
  omega
/-- What a place says of the next number. -/
def upS (V : Nat → List UInt8) (n : Nat) (m i : Nat) : Nat := match takeS (V (2 + i)) with
  | some s => if s.q % n = i ∧ m < (s.q + 1) % 18446744073709551616 then (s.q + 1) % 18446744073709551616 else m
  | none => m
/-- The next number. -/
def nextF (V : Nat → List UInt8) (n f : Nat) : Nat := (List.range n).foldl (upS V n) f
/-- What the next number is. -/
def IsNext (F : Nat → Option Sh) (f r : Nat) : Prop := f ≤ r ∧ (∀ q s, F q = some s → (q + 1) % 18446744073709551616 ≤ r) ∧ (r = f ∨ ∃ q s, F q = some s ∧ r = (q + 1) % 18446744073709551616)
theorem IsNext.one {F : Nat → Option Sh} {f r r' : Nat} (h : IsNext F f r) (h' : IsNext F f r') : r = r' := by
  obtain ⟨a1, a2, a3⟩ := h
  obtain ⟨b1, b2, b3⟩ := h'
  refine Nat.le_antisymm ?_ ?_
  · rcases a3 with rfl | ⟨q, s, hq, rfl⟩
    · exact b1
    · exact b2 q s hq
  · rcases b3 with rfl | ⟨q, s, hq, rfl⟩
    · exact a1
    · exact a2 q s hq
theorem nextF_is (V : Nat → List UInt8) (n f : Nat) (hn : 0 < n) : IsNext (sheetF V n) f (nextF V n f) := by
  have key : ∀ k, k ≤ n → f ≤ (List.range k).foldl (upS V n) f ∧ (∀ q s, q % n < k → sheetF V n q = some s → (q + 1) % 18446744073709551616 ≤ (List.range k).foldl (upS V n) f) ∧ ((List.range k).foldl (upS V n) f = f ∨ ∃ q s, sheetF V n q = some s ∧ (List.range k).foldl (upS V n) f = (q + 1) % 18446744073709551616) := by
    intro k
    induction k with
    | zero => intro _; exact ⟨Nat.le_refl _, fun q s h => by omega, .inl rfl⟩
    | succ k ih =>
      intro hk
      obtain ⟨i1, i2, i3⟩ := ih (by omega)
      rw [List.range_succ, List.foldl_append]
      simp only [List.foldl_cons, List.foldl_nil]
      generalize (List.range k).foldl (upS V n) f = m at *
      rcases ht : takeS (V (2 + k)) with _ | s
      · have e : upS V n m k = m := by simp [upS, ht]
        rw [e]
        refine ⟨i1, fun q s hq hs => ?_, i3⟩
        rcases Nat.lt_or_ge (q % n) k with hlt | hge
        · exact i2 q s hlt hs
        · have hqk : q % n = k := by omega
          have := (sheetF_q hs).2
          rw [hqk, ht] at this
          cases this
      · have e : upS V n m k = if s.q % n = k ∧ m < (s.q + 1) % 18446744073709551616 then (s.q + 1) % 18446744073709551616 else m := by simp [upS, ht]
        rw [e]
        have old : ∀ q s', q % n < k + 1 → sheetF V n q = some s' → (q + 1) % 18446744073709551616 ≤ m ∨ (q = s.q ∧ s.q % n = k) := fun q s' hq hs => by
          rcases Nat.lt_or_ge (q % n) k with hlt | hge
          · exact .inl (i2 q s' hlt hs)
          · have hqk : q % n = k := by omega
            obtain ⟨h1, h2⟩ := sheetF_q hs
            rw [hqk, ht] at h2
            injection h2 with h2
            subst h2
            exact .inr ⟨h1.symm, by rw [h1]; exact hqk⟩
        split
        · next c =>
          refine ⟨by omega, fun q s' hq hs => ?_, .inr ⟨s.q, s, ?_, rfl⟩⟩
          · rcases old q s' hq hs with h | ⟨h, _⟩
            · omega
            · rw [h]; exact Nat.le_refl _
          · unfold sheetF
            rw [c.1, ht]
            simp
        · next c =>
          refine ⟨i1, fun q s' hq hs => ?_, i3⟩
          rcases old q s' hq hs with h | ⟨h, h2⟩
          · exact h
          · rw [h]
            have : ¬ m < (s.q + 1) % 18446744073709551616 := fun hh => c ⟨h2, hh⟩
            omega
  obtain ⟨h1, h2, h3⟩ := key n (Nat.le_refl _)
  exact ⟨h1, fun q s hs => h2 q s (Nat.mod_lt _ hn) hs, h3⟩

/-- The texts of sheets, one behind the other: what is left behind the last last one is lost. -/
def parse : List UInt8 → List Sh → List (List UInt8)
  | _, [] => []
  | t, s :: r => if s.last then (t ++ s.t) :: parse [] r else parse (t ++ s.t) r
/-- What is left. -/
def remT : List UInt8 → List Sh → List UInt8
  | t, [] => t
  | t, s :: r => if s.last then remT [] r else remT (t ++ s.t) r
theorem parse_append (l m : List Sh) : ∀ t, parse t (l ++ m) = parse t l ++ parse (remT t l) m := by
  induction l with
  | nil => intro t; rfl
  | cons s r ih => intro t; simp only [List.cons_append, parse, remT]; split <;> simp [ih]
theorem remT_append (l m : List Sh) : ∀ t, remT t (l ++ m) = remT (remT t l) m := by
  induction l with
  | nil => intro t; rfl
  | cons s r ih => intro t; simp only [List.cons_append, remT]; split <;> exact ih _
/-- The sheets from a number on, as long as there are such. -/
def runF (F : Nat → Option Sh) : Nat → Nat → List Sh
  | 0, _ => []
  | k + 1, q => match F q with
    | some s => s :: runF F k (q + 1)
    | none => []
theorem runF_get (F : Nat → Option Sh) : ∀ k q i s, (runF F k q)[i]? = some s → F (q + i) = some s
  | 0, q, i, s, h => by simp [runF] at h
  | k + 1, q, i, s, h => by
    unfold runF at h
    cases hq : F q with
    | none => rw [hq] at h; simp at h
    | some s' =>
      rw [hq] at h
      cases i with
      | zero => simp at h; subst h; simpa using hq
      | succ i =>
        have := runF_get F k (q + 1) i s (by simpa using h)
        rw [show q + (i + 1) = q + 1 + i by omega]
        exact this
theorem runF_of (F : Nat → Option Sh) (ss : List Sh) : ∀ k q, ss.length < k → (∀ i s, ss[i]? = some s → F (q + i) = some s) → F (q + ss.length) = none → runF F k q = ss := by
  induction ss with
  | nil =>
    intro k q hk _ h2
    cases k with
    | zero => omega
    | succ k => simp only [List.length_nil, Nat.add_zero] at h2; simp [runF, h2]
  | cons s r ih =>
    intro k q hk h1 h2
    cases k with
    | zero => simp at hk
    | succ k =>
      have h0 := h1 0 s rfl
      simp only [Nat.add_zero] at h0
      unfold runF
      rw [h0]
      dsimp only
      rw [ih k (q + 1) (by simp at hk; omega) (fun i s' hi => by
        have := h1 (i + 1) s' (by simpa using hi)
        rwa [show q + 1 + i = q + (i + 1) by omega]) (by
        rwa [show q + 1 + r.length = q + (s :: r).length by simp; omega])]
/-- The texts of a log. -/
def textsF (V : Nat → List UInt8) (n f : Nat) : List (List UInt8) := parse [] (runF (sheetF V n) (n + 1) f)

section
variable (q : Nat) (tx : List UInt8)
theorem shAt_last (i : Nat) (h : i + 1 = need tx.length) : (shAt q tx i).last = true := by simp [shAt, h]
theorem shAt_not (i : Nat) (h : i + 1 < need tx.length) : (shAt q tx i).last = false := by simp [shAt]; omega
theorem rem_part : ∀ k, k < need tx.length → parse [] ((cutL q tx).take k) = [] ∧ remT [] ((cutL q tx).take k) = tx.take (497 * k)
  | 0, _ => by simp [parse, remT]
  | k + 1, h => by
    obtain ⟨h1, h2⟩ := rem_part k (by omega)
    have e := cutL_take q tx k (by omega)
    rw [e, parse_append, remT_append, h1, h2]
    have hl := shAt_not q tx k h
    refine ⟨by simp [parse, hl], ?_⟩
    simp only [remT, hl, Bool.false_eq_true, if_false]
    show tx.take (497 * k) ++ (tx.drop (497 * k)).take 497 = _
    rw [Nat.mul_succ, List.take_add]
theorem rem_whole : parse [] (cutL q tx) = [tx] ∧ remT [] (cutL q tx) = [] := by
  have hp := need_pos tx.length
  obtain ⟨h1, h2⟩ := rem_part q tx (need tx.length - 1) (by omega)
  have e := cutL_take q tx (need tx.length - 1) (by omega)
  have ht : (cutL q tx).take (need tx.length - 1 + 1) = cutL q tx := List.take_of_length_le (by rw [cutL_length]; omega)
  rw [ht] at e
  have hl := shAt_last q tx (need tx.length - 1) (by omega)
  have hm : tx.take (497 * (need tx.length - 1)) ++ (shAt q tx (need tx.length - 1)).t = tx := by
    show tx.take (497 * (need tx.length - 1)) ++ (tx.drop (497 * (need tx.length - 1))).take 497 = tx
    rw [← List.take_add]
    exact List.take_of_length_le (by unfold need; omega)
  rw [e, parse_append, remT_append, h1, h2]
  refine ⟨?_, by simp [remT, hl]⟩
  simp only [parse, hl, if_true, List.nil_append, hm]
end

/-- What a log remembers. -/
structure Lm where
  h : Hd
  a : Nat
  next : Nat
  left : Nat
  dead : Bool
def Dm.heads (d : Dm) : Option (Hd × Nat) := countS (headS (d.nowAt 0)) (headS (d.nowAt 1))
/-- A head is written, and the disk flushed. -/
def Dm.putHead (d : Dm) (a : Nat) (h : Hd) : Dm × Int := match d.writeS a (hsec h) with
  | (d1, e) => if e = 0 then d1.flushS else (d1, e)
/-- A text's sheets are written, and the disk flushed. -/
def Dm.putAll (n : Nat) : List Sh → Dm → Dm × Int
  | [], d => d.flushS
  | s :: r, d => match d.writeS ((2 + s.q % n : Nat) : Int) (secL s.q s.last s.t) with
    | (d1, e) => if e = 0 then Dm.putAll n r d1 else (d1, e)
def Dm.nextH (d : Dm) (f : Nat) (n : Nat) (note : List UInt8) : Hd × Nat := match d.heads with
  | some (h, a) => (⟨(h.g + 1) % 18446744073709551616, f, n, note⟩, 1 - a)
  | none => (⟨1, f, n, note⟩, 1)
def mayFormat (d : Dm) (n : Int) (note : List UInt8) : Bool := decide (96 ≤ n) && decide (n ≤ 512) && decide (2 + n ≤ d.on.length) && decide (note.length ≤ 64)
def Dm.formatS (d : Dm) (n : Int) (note : List UInt8) : Dm × Int :=
  if !mayFormat d n note then (d, 2) else if !d.power then (d, 4) else d.putHead (d.nextH (nextF d.nowAt n.toNat 1) n.toNat note).2 (d.nextH (nextF d.nowAt n.toNat 1) n.toNat note).1
/-- A log that is opened, and its texts; or the error. -/
def Dm.openS (d : Dm) : Option (Lm × List (List UInt8)) × Int :=
  if !d.power then (none, 4) else match d.heads with
    | none => (none, 12)
    | some (h, a) => if 2 + h.n ≤ d.on.length then (some (⟨h, a, nextF d.nowAt h.n h.f, 0, false⟩, textsF d.nowAt h.n h.f), 0) else (none, 12)
def Lm.commitS (l : Lm) (d : Dm) (t : List UInt8) : Lm × Dm × Int :=
  if l.dead then (l, d, 4) else if l.h.n < need t.length then (l, d, 6) else if l.left < need t.length then (l, d, 5) else
    match Dm.putAll l.h.n (cutL l.next t) d with
    | (d1, e) => if e = 0 then ({ l with next := (l.next + need t.length) % 18446744073709551616, left := l.left - need t.length }, d1, 0) else ({ l with dead := e == 4 }, d1, e)
def Lm.newHead (l : Lm) : Hd := ⟨(l.h.g + 1) % 18446744073709551616, l.next, l.h.n, l.h.note⟩
def Lm.trimS (l : Lm) (d : Dm) : Lm × Dm × Int :=
  if l.dead then (l, d, 4) else match d.putHead (1 - l.a) l.newHead with
    | (d1, e) => if e = 0 then ({ l with h := l.newHead, a := 1 - l.a, left := l.h.n }, d1, 0) else ({ l with dead := e == 4 }, d1, e)
end Go.Proofs.YtfcljcikajaedaaGreatDoor

/- What a log has behind a commit or a trim, wherever the power went: plain lists and numbers, no program. No condition. -/
namespace Go.Proofs.YtfcljcikajaedaaGreatDoor

/-- A disk's sectors, by their numbers. -/
def onV (on : List (List UInt8)) (a : Nat) : List UInt8 := on.getD a []
theorem countS_new {x y : Option Hd} {h h' : Hd} {a : Nat} (hc : countS x y = some (h, a)) (hg : h.g < h'.g) : a ≤ 1 ∧ (a = 0 → countS x (some h') = some (h', 1)) ∧ (a = 1 → countS (some h') y = some (h', 0)) := by
  rcases x with _ | x <;> rcases y with _ | y
  · simp [countS] at hc
  · simp only [countS, Option.some.injEq, Prod.mk.injEq] at hc
    obtain ⟨rfl, rfl⟩ := hc
    refine ⟨Nat.le_refl _, fun e => by omega, fun _ => ?_⟩
    simp only [countS]
    rw [if_neg (by omega)]
  · simp only [countS, Option.some.injEq, Prod.mk.injEq] at hc
    obtain ⟨rfl, rfl⟩ := hc
    refine ⟨by omega, fun _ => ?_, fun e => by omega⟩
    simp only [countS]
    rw [if_pos hg]
  · simp only [countS] at hc
    split at hc
    · simp only [Option.some.injEq, Prod.mk.injEq] at hc
      obtain ⟨rfl, rfl⟩ := hc
      refine ⟨Nat.le_refl _, fun e => by omega, fun _ => ?_⟩
      simp only [countS]
      rw [if_neg (by omega)]
    · simp only [Option.some.injEq, Prod.mk.injEq] at hc
      obtain ⟨rfl, rfl⟩ := hc
      refine ⟨by omega, fun _ => ?_, fun e => by omega⟩
      simp only [countS]
      rw [if_pos hg]
theorem countS_at {x y : Option Hd} {h : Hd} {a : Nat} (hc : countS x y = some (h, a)) : (a = 0 ∧ x = some h) ∨ (a = 1 ∧ y = some h) := by
  rcases x with _ | x <;> rcases y with _ | y
  · simp [countS] at hc
  · simp only [countS, Option.some.injEq, Prod.mk.injEq] at hc
    obtain ⟨rfl, rfl⟩ := hc
    exact .inr ⟨rfl, rfl⟩
  · simp only [countS, Option.some.injEq, Prod.mk.injEq] at hc
    obtain ⟨rfl, rfl⟩ := hc
    exact .inl ⟨rfl, rfl⟩
  · simp only [countS] at hc
    split at hc
    · simp only [Option.some.injEq, Prod.mk.injEq] at hc
      obtain ⟨rfl, rfl⟩ := hc
      exact .inr ⟨rfl, rfl⟩
    · simp only [Option.some.injEq, Prod.mk.injEq] at hc
      obtain ⟨rfl, rfl⟩ := hc
      exact .inl ⟨rfl, rfl⟩
/-- Numbers of fewer than n side by side have places of their own. -/
theorem mod_apart {n x y : Nat} (h : x < y) (hn : y - x < n) : x % n ≠ y % n := by
  intro e
  have h1 := Nat.sub_mod_eq_zero_of_mod_eq e.symm
  rw [Nat.mod_eq_of_lt hn] at h1
  omega
theorem mod_apart' {n x y : Nat} (h : x ≠ y) (h1 : y - x < n) (h2 : x - y < n) : x % n ≠ y % n := by
  rcases Nat.lt_or_ge x y with hl | hg
  · exact mod_apart hl h1
  · exact (mod_apart (show y < x by omega) h2).symm

/-- What may be done to a log: a head counts, and nothing lies in its place that has the next number or one behind. -/
structure Wo (on : List (List UInt8)) (l : Lm) (N : Nat) : Prop where
  len : 2 + l.h.n ≤ on.length
  hok : l.h.ok
  heads : countS (headS (onV on 0)) (headS (onV on 1)) = some (l.h, l.a)
  gN : l.h.g ≤ N
  first : l.h.f ≤ l.next
  nextN : l.next ≤ N
  off : ∀ q, l.next ≤ q → sheetF (onV on) l.h.n q = none
/-- .. and its texts are those of ss, the sheets from the first number to the next one. -/
structure Wi (on : List (List UInt8)) (l : Lm) (ss : List Sh) (N : Nat) : Prop where
  o : Wo on l N
  run : ∀ i s, ss[i]? = some s → sheetF (onV on) l.h.n (l.h.f + i) = some s
  next : l.h.f + ss.length = l.next
  rem : remT [] ss = []
  few : ss.length + l.left = l.h.n
  alive : l.dead = false
/-- A log that is to be opened: its texts. -/
structure Wc (on : List (List UInt8)) (u : List (List UInt8)) (N : Nat) : Prop where
  out : ∃ h a, 2 + h.n ≤ on.length ∧ h.ok ∧ countS (headS (onV on 0)) (headS (onV on 1)) = some (h, a) ∧ h.g ≤ N ∧ h.f ≤ N ∧ (∀ q s, sheetF (onV on) h.n q = some s → q < N) ∧ textsF (onV on) h.n h.f = u

section
variable {on : List (List UInt8)} {l : Lm} {ss : List Sh} {N : Nat}
theorem Wi.texts (h : Wi on l ss N) : textsF (onV on) l.h.n l.h.f = parse [] ss := by
  unfold textsF
  rw [runF_of (sheetF (onV on) l.h.n) ss (l.h.n + 1) l.h.f (by have := h.few; omega) h.run (by rw [h.next]; exact h.o.off _ (Nat.le_refl _))]
theorem Wo.bound (h : Wo on l N) : ∀ q s, sheetF (onV on) l.h.n q = some s → q < l.next := fun q s hs => by
  rcases Nat.lt_or_ge q l.next with hl | hg
  · exact hl
  · have := h.off q hg
    rw [this] at hs
    cases hs
theorem Wo.cut (h : Wo on l N) : Wc on (textsF (onV on) l.h.n l.h.f) N :=
  ⟨⟨l.h, l.a, h.len, h.hok, h.heads, h.gN, by have := h.first; have := h.nextN; omega, fun q s hs => by have := h.bound q s hs; have := h.nextN; omega, rfl⟩⟩
theorem Wi.cut (h : Wi on l ss N) : Wc on (parse [] ss) N := by
  have := h.o.cut
  rwa [h.texts] at this
theorem Wc.mono {u : List (List UInt8)} {N' : Nat} (h : Wc on u N) (hn : N ≤ N') : Wc on u N' := by
  obtain ⟨hd, a, h1, h2, h3, h4, h5, h6, h7⟩ := h.out
  exact ⟨⟨hd, a, h1, h2, h3, by omega, by omega, fun q s hs => by have := h6 q s hs; omega, h7⟩⟩
theorem Wo.mono {N' : Nat} (h : Wo on l N) (hn : N ≤ N') : Wo on l N' := ⟨h.len, h.hok, h.heads, by have := h.gN; omega, h.first, by have := h.nextN; omega, h.off⟩
theorem Wi.mono {N' : Nat} (h : Wi on l ss N) (hn : N ≤ N') : Wi on l ss N' := ⟨h.o.mono hn, h.run, h.next, h.rem, h.few, h.alive⟩
/-- The next number of a log that is opened. -/
theorem nextF_small {V : Nat → List UInt8} {n f M : Nat} (hn : 0 < n) (hf : f ≤ M) (hM : M < 18446744073709551616) (hs : ∀ q s, sheetF V n q = some s → q < M) : f ≤ nextF V n f ∧ nextF V n f ≤ M ∧ ∀ q, nextF V n f ≤ q → sheetF V n q = none := by
  obtain ⟨h1, h2, h3⟩ := nextF_is V n f hn
  refine ⟨h1, ?_, fun q hq => ?_⟩
  · rcases h3 with e | ⟨q, s, hq, e⟩
    · omega
    · have := hs q s hq
      rw [e, Nat.mod_eq_of_lt (by omega)]
      omega
  · rcases hx : sheetF V n q with _ | s
    · rfl
    · have a := hs q s hx
      have b := h2 q s hx
      rw [Nat.mod_eq_of_lt (by omega)] at b
      omega

/-- Behind a trim. -/
theorem headsOf_set (h : Wo on l N) (hN : N + 1 < 18446744073709551616) (on' : List (List UInt8)) (ha : onV on' (1 - l.a) = hsec l.newHead) (hb : ∀ k, k ≠ 1 - l.a → onV on' k = onV on k) :
    l.newHead.ok ∧ l.newHead.g ≤ N + 1 ∧ countS (headS (onV on' 0)) (headS (onV on' 1)) = some (l.newHead, 1 - l.a) ∧ sheetF (onV on') l.h.n = sheetF (onV on) l.h.n := by
  have hg := h.gN
  have e : l.newHead.g = l.h.g + 1 := Nat.mod_eq_of_lt (by omega)
  have hok : l.newHead.ok := ⟨by rw [e]; omega, by have := h.nextN; show l.next < _; omega, h.hok.lo, h.hok.hi, h.hok.note_⟩
  obtain ⟨c1, c2, c3⟩ := countS_new (h' := l.newHead) h.heads (by rw [e]; omega)
  refine ⟨hok, by omega, ?_, ?_⟩
  · have hh := headS_hsec _ hok
    rcases Nat.eq_zero_or_pos l.a with e0 | e0
    · rw [e0] at ha hb ⊢
      rw [ha, hb 0 (by decide), hh]
      exact c2 e0
    · have e1 : l.a = 1 := by omega
      rw [e1] at ha hb ⊢
      rw [ha, hb 1 (by decide), hh]
      exact c3 e1
  · funext q
    unfold sheetF
    rw [hb (2 + q % l.h.n) (by omega)]
theorem Wo.trimmed (h : Wo on l N) (hN : N + 1 < 18446744073709551616) (on' : List (List UInt8)) (hl : on'.length = on.length) (ha : onV on' (1 - l.a) = hsec l.newHead) (hb : ∀ k, k ≠ 1 - l.a → onV on' k = onV on k) (hd : l.dead = false) :
    Wi on' { l with h := l.newHead, a := 1 - l.a, left := l.h.n } [] (N + 1) := by
  obtain ⟨h1, h2, h3, h4⟩ := headsOf_set h hN on' ha hb
  refine ⟨⟨by rw [hl]; exact h.len, h1, h3, h2, Nat.le_refl _, by have := h.nextN; show l.next ≤ N + 1; omega, fun q hq => ?_⟩, fun i s hi => by simp at hi, rfl, rfl, by simp [Lm.newHead], hd⟩
  show sheetF (onV on') l.h.n q = none
  rw [h4]
  exact h.off q hq

/-- The sheets of a text that were written reach the disk, or some of them. -/
def Some_ (on on' : List (List UInt8)) (n q : Nat) (tx : List UInt8) : Prop := ∀ a, onV on' a = onV on a ∨ ∃ i, i < need tx.length ∧ a = 2 + (q + i) % n ∧ onV on' a = secL (shAt q tx i).q (shAt q tx i).last (shAt q tx i).t
theorem take_shAt (q : Nat) (tx : List UInt8) (i : Nat) : takeS (secL (shAt q tx i).q (shAt q tx i).last (shAt q tx i).t) = some (shAt q tx i) :=
  takeS_secL _ _ _ (shAt_lt q tx i) (shAt_le q tx i)
theorem shAt_q (q : Nat) (tx : List UInt8) (i : Nat) (h : q + i < 18446744073709551616) : (shAt q tx i).q = q + i := Nat.mod_eq_of_lt h
theorem Wi.part (h : Wi on l ss N) (tx : List UInt8) (hl : need tx.length ≤ l.left) (hN : N + need tx.length < 18446744073709551616) (on' : List (List UInt8)) (_hlen : on'.length = on.length) (hs : Some_ on on' l.h.n l.next tx) :
    (countS (headS (onV on' 0)) (headS (onV on' 1)) = some (l.h, l.a)) ∧ (∀ i s, ss[i]? = some s → sheetF (onV on') l.h.n (l.h.f + i) = some s) ∧
    (∀ q, l.next ≤ q → sheetF (onV on') l.h.n q = none ∨ ∃ i, i < need tx.length ∧ q = l.next + i ∧ sheetF (onV on') l.h.n q = some (shAt l.next tx i)) := by
  have hn : 0 < l.h.n := by have := h.o.hok.lo; omega
  have hnN := h.o.nextN
  have hfew := h.few
  have hnx := h.next
  refine ⟨?_, fun i s hi => ?_, fun q hq => ?_⟩
  · have e0 : onV on' 0 = onV on 0 := by
      rcases hs 0 with e | ⟨i, _, e, _⟩
      · exact e
      · omega
    have e1 : onV on' 1 = onV on 1 := by
      rcases hs 1 with e | ⟨i, _, e, _⟩
      · exact e
      · omega
    rw [e0, e1]
    exact h.o.heads
  · have hil : i < ss.length := (List.getElem?_eq_some_iff.1 hi).1
    have := h.run i s hi
    unfold sheetF at this ⊢
    rcases hs (2 + (l.h.f + i) % l.h.n) with e | ⟨j, hj, e, _⟩
    · rw [e]; exact this
    · exfalso
      exact mod_apart (n := l.h.n) (show l.h.f + i < l.next + j by omega) (by omega) (by omega)
  · rcases hs (2 + q % l.h.n) with e | ⟨j, hj, e, e2⟩
    · left
      have := h.o.off q hq
      unfold sheetF at this ⊢
      rw [e]; exact this
    · unfold sheetF
      rw [e2, take_shAt]
      dsimp only
      rw [shAt_q _ _ _ (by omega)]
      by_cases hqj : l.next + j = q
      · right
        exact ⟨j, hj, hqj.symm, by rw [if_pos hqj]⟩
      · left
        rw [if_neg hqj]
theorem upto_all (F : Nat → Option Sh) (q : Nat) (tx : List UInt8) (k : Nat) (hF : ∀ i, i < k → F (q + i) = none ∨ F (q + i) = some (shAt q tx i)) : ∃ j, j ≤ k ∧ (∀ i, i < j → F (q + i) = some (shAt q tx i)) ∧ (j = k ∨ F (q + j) = none) := by
  induction k with
  | zero => exact ⟨0, Nat.le_refl _, fun i h => by omega, .inl rfl⟩
  | succ k ih =>
    obtain ⟨j, h1, h2, h3⟩ := ih fun i hi => hF i (by omega)
    rcases h3 with rfl | h3
    · rcases hF j (by omega) with h | h
      · exact ⟨j, by omega, h2, .inr h⟩
      · refine ⟨j + 1, Nat.le_refl _, fun i hi => ?_, .inl rfl⟩
        rcases Nat.lt_or_ge i j with hl | hg
        · exact h2 i hl
        · obtain rfl : i = j := by omega
          exact h
    · exact ⟨j, by omega, h2, .inr h3⟩
theorem run_more (F : Nat → Option Sh) (f : Nat) (ss m : List Sh) (h1 : ∀ i s, ss[i]? = some s → F (f + i) = some s) (h2 : ∀ i s, m[i]? = some s → F (f + ss.length + i) = some s) : ∀ i s, (ss ++ m)[i]? = some s → F (f + i) = some s := fun i s hi => by
  rcases Nat.lt_or_ge i ss.length with hl | hg
  · rw [List.getElem?_append_left hl] at hi
    exact h1 i s hi
  · rw [List.getElem?_append_right hg] at hi
    have := h2 _ _ hi
    rwa [show f + ss.length + (i - ss.length) = f + i by omega] at this
/-- .. so its texts are those that were there, and perhaps this one. -/
theorem Wi.lost (h : Wi on l ss N) (tx : List UInt8) (hl : need tx.length ≤ l.left) (hN : N + need tx.length < 18446744073709551616) (on' : List (List UInt8)) (hlen : on'.length = on.length) (hs : Some_ on on' l.h.n l.next tx) :
    Wc on' (parse [] ss) (N + need tx.length) ∨ Wc on' (parse [] ss ++ [tx]) (N + need tx.length) := by
  obtain ⟨c1, c2, c3⟩ := h.part tx hl hN on' hlen hs
  have hfew := h.few
  have hnx := h.next
  have hnN := h.o.nextN
  obtain ⟨j, j1, j2, j3⟩ := upto_all (sheetF (onV on') l.h.n) l.next tx (need tx.length) fun i hi => by
    rcases c3 (l.next + i) (by omega) with e | ⟨i', _, e, e2⟩
    · exact .inl e
    · obtain rfl : i = i' := by omega
      exact .inr e2
  have hend : sheetF (onV on') l.h.n (l.next + j) = none := by
    rcases j3 with rfl | e
    · rcases c3 (l.next + need tx.length) (by omega) with e | ⟨i, hi, e, _⟩
      · exact e
      · omega
    · exact e
  have ht : textsF (onV on') l.h.n l.h.f = parse [] (ss ++ (cutL l.next tx).take j) := by
    unfold textsF
    have hlj : ((cutL l.next tx).take j).length = j := by rw [List.length_take, cutL_length]; omega
    rw [runF_of (sheetF (onV on') l.h.n) (ss ++ (cutL l.next tx).take j) (l.h.n + 1) l.h.f (by rw [List.length_append, hlj]; omega) (run_more _ _ _ _ c2 fun i s hi => ?_) (by rw [List.length_append, hlj, ← Nat.add_assoc, hnx]; exact hend)]
    rw [List.getElem?_take] at hi
    split at hi
    · next hij =>
      rw [cutL_get _ _ _ (by omega)] at hi
      injection hi with hi
      subst hi
      rw [hnx]
      exact j2 i hij
    · cases hi
  have hb : ∀ q s, sheetF (onV on') l.h.n q = some s → q < N + need tx.length := fun q s hq => by
    rcases Nat.lt_or_ge q l.next with hlt | hge
    · omega
    · rcases c3 q hge with e | ⟨i, hi, e, _⟩
      · rw [e] at hq; cases hq
      · omega
  have base : ∀ u, textsF (onV on') l.h.n l.h.f = u → Wc on' u (N + need tx.length) := fun u hu =>
    ⟨⟨l.h, l.a, by rw [hlen]; exact h.o.len, h.o.hok, c1, by have := h.o.gN; omega, by have := h.o.first; omega, hb, hu⟩⟩
  rw [parse_append, h.rem] at ht
  rcases Nat.lt_or_ge j (need tx.length) with hlt | hge
  · left
    rw [(rem_part l.next tx j hlt).1, List.append_nil] at ht
    exact base _ ht
  · right
    rw [List.take_of_length_le (by rw [cutL_length]; exact hge), (rem_whole l.next tx).1] at ht
    exact base _ ht
/-- .. and if all of them did, the text is there. -/
theorem Wi.done (h : Wi on l ss N) (tx : List UInt8) (hl : need tx.length ≤ l.left) (hN : N + need tx.length < 18446744073709551616) (on' : List (List UInt8)) (hlen : on'.length = on.length) (hs : Some_ on on' l.h.n l.next tx)
    (ha : ∀ i, i < need tx.length → onV on' (2 + (l.next + i) % l.h.n) = secL (shAt l.next tx i).q (shAt l.next tx i).last (shAt l.next tx i).t) :
    Wi on' { l with next := (l.next + need tx.length) % 18446744073709551616, left := l.left - need tx.length } (ss ++ cutL l.next tx) (N + need tx.length) := by
  obtain ⟨c1, c2, c3⟩ := h.part tx hl hN on' hlen hs
  have hfew := h.few
  have hnx := h.next
  have hnN := h.o.nextN
  have hfs := h.o.first
  have e : (l.next + need tx.length) % 18446744073709551616 = l.next + need tx.length := Nat.mod_eq_of_lt (by omega)
  rw [e]
  refine ⟨⟨by rw [hlen]; exact h.o.len, h.o.hok, c1, (show l.h.g ≤ N + need tx.length by have := h.o.gN; omega), ?_, ?_, fun q hq => ?_⟩, run_more _ _ _ _ c2 fun i s hi => ?_, ?_, ?_, ?_, h.alive⟩
  · show l.h.f ≤ l.next + need tx.length; omega
  · show l.next + need tx.length ≤ _; omega
  · have hq' : l.next + need tx.length ≤ q := hq
    rcases c3 q (by omega) with e | ⟨i, hi, e, _⟩
    · exact e
    · omega
  · have hi' := (List.getElem?_eq_some_iff.1 hi).1
    rw [cutL_length] at hi'
    rw [cutL_get _ _ _ hi'] at hi
    injection hi with hi
    subst hi
    show sheetF (onV on') l.h.n (l.h.f + ss.length + i) = _
    rw [hnx]
    unfold sheetF
    rw [ha i hi', take_shAt]
    dsimp only
    rw [shAt_q _ _ _ (by omega), if_pos rfl]
  · show l.h.f + (ss ++ cutL l.next tx).length = l.next + need tx.length
    rw [List.length_append, cutL_length]; omega
  · rw [remT_append, h.rem]
    exact (rem_whole _ _).2
  · show (ss ++ cutL l.next tx).length + (l.left - need tx.length) = l.h.n
    rw [List.length_append, cutL_length]; omega
end

/-- The writes of sheets. -/
def wrS (n : Nat) (l : List Sh) : List (Nat × List UInt8) := l.map fun s => (2 + s.q % n, secL s.q s.last s.t)
theorem wrS_cut (n q : Nat) (tx : List UInt8) (k : Nat) (hk : k ≤ need tx.length) (x : Nat × List UInt8) (hx : x ∈ wrS n ((cutL q tx).take k)) (hq : q + need tx.length ≤ 18446744073709551616) : ∃ i, i < k ∧ x = (2 + (q + i) % n, secL (shAt q tx i).q (shAt q tx i).last (shAt q tx i).t) := by
  obtain ⟨s, hs, rfl⟩ := List.mem_map.1 hx
  obtain ⟨i, hi⟩ := List.getElem?_of_mem hs
  rw [List.getElem?_take] at hi
  split at hi
  · next hik =>
    rw [cutL_get _ _ _ (by omega)] at hi
    injection hi with hi
    subst hi
    exact ⟨i, hik, by rw [shAt_q _ _ _ (by omega)]⟩
  · cases hi
/-- Some of the writes reach the disk. -/
theorem some_settle (f : Nat → Bool) (on : List (List UInt8)) (n q : Nat) (tx : List UInt8) (k : Nat) (hk : k ≤ need tx.length) (hq : q + need tx.length ≤ 18446744073709551616) (hn : 0 < n) (hl : 2 + n ≤ on.length) : Some_ on (settleL f on (wrS n ((cutL q tx).take k))) n q tx := fun a => by
  rcases settle_mem f on (wrS n ((cutL q tx).take k)) (fun x hx => by
    obtain ⟨i, _, rfl⟩ := wrS_cut n q tx k hk x hx hq
    have := Nat.mod_lt (q + i) hn
    show 2 + (q + i) % n < on.length
    omega) a with h | ⟨x, hx, h1, h2⟩
  · exact .inl h
  · obtain ⟨i, hi, rfl⟩ := wrS_cut n q tx k hk x hx hq
    exact .inr ⟨i, by omega, h1.symm, h2⟩
/-- All of them do. -/
theorem all_settle (on : List (List UInt8)) (n q : Nat) (tx : List UInt8) (hq : q + need tx.length ≤ 18446744073709551616) (hn : 0 < n) (hl : 2 + n ≤ on.length) (hle : need tx.length ≤ n) (i : Nat) (hi : i < need tx.length) :
    onV (settleL (fun _ => true) on (wrS n (cutL q tx))) (2 + (q + i) % n) = secL (shAt q tx i).q (shAt q tx i).last (shAt q tx i).t := by
  have key : ∀ k, k ≤ need tx.length → i < k → lastB on (wrS n ((cutL q tx).take k)) (2 + (q + i) % n) = secL (shAt q tx i).q (shAt q tx i).last (shAt q tx i).t := by
    intro k
    induction k with
    | zero => intro _ h; omega
    | succ k ih =>
      intro hk hik
      have e : wrS n ((cutL q tx).take (k + 1)) = wrS n ((cutL q tx).take k) ++ [(2 + (shAt q tx k).q % n, secL (shAt q tx k).q (shAt q tx k).last (shAt q tx k).t)] := by
        rw [cutL_take q tx k (by omega)]; simp [wrS]
      rw [e, lastB_snoc]
      have e2 : (shAt q tx k).q = q + k := shAt_q _ _ _ (by omega)
      dsimp only
      rcases Nat.lt_or_ge i k with hl | hg
      · rw [if_neg (by rw [e2]; have := mod_apart (n := n) (show q + i < q + k by omega) (by omega); omega)]
        exact ih (by omega) hl
      · obtain rfl : i = k := by omega
        rw [if_pos (by rw [e2])]
  have := key (need tx.length) (Nat.le_refl _) hi
  rw [List.take_of_length_le (by rw [cutL_length]; exact Nat.le_refl _)] at this
  rw [← this]
  have hm := Nat.mod_lt (q + i) hn
  refine settle_all_get on _ (fun x hx => ?_) _ (by omega)
  have hx' : x ∈ wrS n ((cutL q tx).take (need tx.length)) := by rwa [List.take_of_length_le (by rw [cutL_length]; exact Nat.le_refl _)]
  obtain ⟨i', _, rfl⟩ := wrS_cut n q tx _ (Nat.le_refl _) x hx' hq
  have := Nat.mod_lt (q + i') hn
  show 2 + (q + i') % n < on.length
  omega
end Go.Proofs.YtfcljcikajaedaaGreatDoor

/- What a commit, a trim, an opening, a format make of a disk and its log: plain lists and numbers, no program. No condition. -/
namespace Go.Proofs.YtfcljcikajaedaaGreatDoor

/-- The power is on, and nothing waits. -/
structure Up (d : Dm) : Prop where
  power : d.power = true
  wait : d.wait = []
/-- The power went, and no fuse is lit. -/
structure Off (d : Dm) : Prop where
  power : d.power = false
  wait : d.wait = []
  lit : d.lit = false
theorem Up.now {d : Dm} (h : d.wait = []) : d.nowAt = onV d.on := by
  funext a
  show lastB d.on d.wait a = _
  rw [h]
  rfl
theorem lose_off (d : Dm) (k : List UInt8) : Off (d.lose k) := ⟨rfl, rfl, rfl⟩
theorem out_act {d : Dm} (_h : d.out = false) : d.act.on = d.on ∧ d.act.wait = d.wait ∧ d.act.power = d.power := ⟨rfl, rfl, rfl⟩

theorem putAll_out (n : Nat) (hn : 0 < n) : ∀ (ss : List Sh) (d : Dm), d.power = true → (∀ s ∈ ss, s.t.length ≤ 497) → 2 + n ≤ d.on.length →
    ((Dm.putAll n ss d).2 = 0 ∧ (Dm.putAll n ss d).1.on = settleL (fun _ => true) d.on (d.wait ++ wrS n ss) ∧ Up (Dm.putAll n ss d).1) ∨
    ((Dm.putAll n ss d).2 = 4 ∧ (∃ k f, k ≤ ss.length ∧ (Dm.putAll n ss d).1.on = settleL f d.on (d.wait ++ wrS n (ss.take k))) ∧ Off (Dm.putAll n ss d).1)
  | [], d, hp, _, _ => by
    have e : Dm.putAll n [] d = if d.out then (d.lose d.keep, 4) else (d.act.all, 0) := by simp [Dm.putAll, Dm.flushS, hp]
    rw [e]
    rcases ho : d.out with _ | _
    · left
      refine ⟨rfl, ?_, ⟨hp, rfl⟩⟩
      simp [wrS, Dm.all, Dm.act]
    · right
      exact ⟨rfl, ⟨0, bitOf d.keep, Nat.le_refl _, by simp [wrS, Dm.lose]⟩, lose_off _ _⟩
  | s :: r, d, hp, hl, hlen => by
    have hm := Nat.mod_lt s.q hn
    have hs : secB d ((2 + s.q % n : Nat) : Int) = true := by simp [secB]; omega
    have h5 : (secL s.q s.last s.t).length = 512 := secL_length _ _ _ (hl s (by simp))
    rcases ho : d.out with _ | _
    · have e : d.writeS ((2 + s.q % n : Nat) : Int) (secL s.q s.last s.t) = (d.act.push (2 + s.q % n) (secL s.q s.last s.t), 0) := by
        simp only [Dm.writeS, hp, hs, h5, ho]
        rfl
      have e2 : Dm.putAll n (s :: r) d = Dm.putAll n r (d.act.push (2 + s.q % n) (secL s.q s.last s.t)) := by
        simp only [Dm.putAll]
        rw [e]
        rfl
      rw [e2]
      have ih := putAll_out n hn r (d.act.push (2 + s.q % n) (secL s.q s.last s.t)) hp (fun x hx => hl x (by simp [hx])) hlen
      have ew : ∀ m, (d.act.push (2 + s.q % n) (secL s.q s.last s.t)).wait ++ wrS n m = d.wait ++ wrS n (s :: m) := fun m => by simp [Dm.push, Dm.act, wrS]
      have eo : (d.act.push (2 + s.q % n) (secL s.q s.last s.t)).on = d.on := rfl
      rcases ih with ⟨h1, h2, h3⟩ | ⟨h1, ⟨k, f, h2, h3⟩, h4⟩
      · left
        exact ⟨h1, by rw [h2, ew, eo], h3⟩
      · right
        exact ⟨h1, ⟨k + 1, f, by simp; omega, by rw [h3, ew, eo]; rfl⟩, h4⟩
    · right
      have e : d.writeS ((2 + s.q % n : Nat) : Int) (secL s.q s.last s.t) = (d.lose d.keep, 4) := by
        simp only [Dm.writeS, hp, hs, h5, ho]
        rfl
      have e2 : Dm.putAll n (s :: r) d = (d.lose d.keep, 4) := by
        simp only [Dm.putAll]
        rw [e]
        rfl
      rw [e2]
      exact ⟨rfl, ⟨0, bitOf d.keep, Nat.zero_le _, by simp [wrS, Dm.lose]⟩, lose_off _ _⟩
theorem putHead_out (d : Dm) (hu : Up d) (a : Nat) (h : Hd) (ha : a < d.on.length) (hl : h.note.length ≤ 64) :
    ((d.putHead a h).2 = 0 ∧ (d.putHead a h).1.on = d.on.set a (hsec h) ∧ Up (d.putHead a h).1) ∨
    ((d.putHead a h).2 = 4 ∧ ((d.putHead a h).1.on = d.on.set a (hsec h) ∨ (d.putHead a h).1.on = d.on) ∧ Off (d.putHead a h).1) := by
  have hp := hu.power
  have hw := hu.wait
  have hs : secB d (a : Int) = true := by simp [secB]; omega
  have h5 := hsec_length h hl
  rcases ho : d.out with _ | _
  · have e : d.writeS (a : Int) (hsec h) = (d.act.push a (hsec h), 0) := by
      simp only [Dm.writeS, hp, hs, h5, ho]
      rfl
    have e2 : d.putHead a h = (d.act.push a (hsec h)).flushS := by simp [Dm.putHead, e]
    have ew : (d.act.push a (hsec h)).wait = [(a, hsec h)] := by simp [Dm.push, Dm.act, hw]
    rw [e2]
    have e3 : (d.act.push a (hsec h)).flushS = if (d.act.push a (hsec h)).out then ((d.act.push a (hsec h)).lose (d.act.push a (hsec h)).keep, 4) else ((d.act.push a (hsec h)).act.all, 0) := by
      have : (d.act.push a (hsec h)).power = true := hp
      simp [Dm.flushS, this]
    have eset : ∀ f : Nat → Bool, settleL f d.on [(a, hsec h)] = if f 0 then d.on.set a (hsec h) else d.on := fun f => rfl
    rw [e3]
    split
    · right
      refine ⟨rfl, ?_, lose_off _ _⟩
      show settleL (bitOf _) d.on (d.act.push a (hsec h)).wait = _ ∨ settleL (bitOf _) d.on (d.act.push a (hsec h)).wait = _
      rw [ew, eset]
      split
      · exact .inl rfl
      · exact .inr rfl
    · left
      refine ⟨rfl, ?_, ⟨hp, rfl⟩⟩
      show settleL (fun _ => true) d.on (d.act.push a (hsec h)).wait = _
      rw [ew, eset]
      rfl
  · right
    have e : d.writeS (a : Int) (hsec h) = (d.lose d.keep, 4) := by
      simp only [Dm.writeS, hp, hs, h5, ho]
      rfl
    have e2 : d.putHead a h = (d.lose d.keep, 4) := by simp [Dm.putHead, e]
    rw [e2]
    refine ⟨rfl, .inr ?_, lose_off _ _⟩
    show settleL (bitOf d.keep) d.on d.wait = d.on
    rw [hw]
    rfl
/-- Without a fuse it is done; with one that lets at most one act be done it is not. -/
theorem putHead_unlit (d : Dm) (hu : Up d) (hlit : d.lit = false) (a : Nat) (h : Hd) (ha : a < d.on.length) (hl : h.note.length ≤ 64) : (d.putHead a h).2 = 0 ∧ (d.putHead a h).1.lit = false := by
  have hp := hu.power
  have hs : secB d (a : Int) = true := by simp [secB]; omega
  have h5 := hsec_length h hl
  have ho : d.out = false := by simp [Dm.out, hlit]
  have e : d.writeS (a : Int) (hsec h) = (d.act.push a (hsec h), 0) := by
    simp only [Dm.writeS, hp, hs, h5, ho]
    rfl
  have e2 : d.putHead a h = (d.act.push a (hsec h)).flushS := by simp [Dm.putHead, e]
  have h1 : (d.act.push a (hsec h)).power = true := hp
  have h2 : (d.act.push a (hsec h)).out = false := by simp [Dm.out, Dm.push, Dm.act, hlit]
  rw [e2]
  simp only [Dm.flushS, h1, h2]
  exact ⟨rfl, hlit⟩
theorem putHead_short (d : Dm) (hu : Up d) (hlit : d.lit = true) (hleft : d.left ≤ 1) (a : Nat) (h : Hd) (ha : a < d.on.length) (hl : h.note.length ≤ 64) : (d.putHead a h).2 = 4 := by
  have hp := hu.power
  have hs : secB d (a : Int) = true := by simp [secB]; omega
  have h5 := hsec_length h hl
  rcases ho : d.out with _ | _
  · have e : d.writeS (a : Int) (hsec h) = (d.act.push a (hsec h), 0) := by
      simp only [Dm.writeS, hp, hs, h5, ho]
      rfl
    have e2 : d.putHead a h = (d.act.push a (hsec h)).flushS := by simp [Dm.putHead, e]
    have h1 : (d.act.push a (hsec h)).power = true := hp
    have h2 : (d.act.push a (hsec h)).out = true := by
      have : d.left = 1 := by
        have : d.left ≠ 0 := by intro h0; simp [Dm.out, hlit, h0] at ho
        omega
      simp [Dm.out, Dm.push, Dm.act, hlit, this]
    rw [e2]
    simp only [Dm.flushS, h1, h2]
    rfl
  · have e : d.writeS (a : Int) (hsec h) = (d.lose d.keep, 4) := by
      simp only [Dm.writeS, hp, hs, h5, ho]
      rfl
    simp [Dm.putHead, e]

section
variable {d : Dm} {l : Lm} {ss : List Sh} {N : Nat}
theorem onV_set (on : List (List UInt8)) (a : Nat) (s : List UInt8) (ha : a < on.length) : onV (on.set a s) a = s ∧ ∀ k, k ≠ a → onV (on.set a s) k = onV on k :=
  ⟨getD_set_same _ _ _ _ ha, fun _k hk => getD_set_other _ _ _ _ _ (fun e => hk e.symm)⟩
theorem trim_out (h : Wo d.on l N) (hN : N + 1 < 18446744073709551616) (hd : l.dead = false) (hu : Up d) :
    ((l.trimS d).2.2 = 0 ∧ Wi (l.trimS d).2.1.on (l.trimS d).1 [] (N + 1) ∧ Up (l.trimS d).2.1) ∨
    ((l.trimS d).2.2 = 4 ∧ (Wc (l.trimS d).2.1.on (textsF (onV d.on) l.h.n l.h.f) (N + 1) ∨ Wc (l.trimS d).2.1.on [] (N + 1)) ∧ Off (l.trimS d).2.1) := by
  have hlo := h.hok.lo
  have ha : 1 - l.a < d.on.length := by have := h.len; omega
  have e : l.trimS d = if (d.putHead (1 - l.a) l.newHead).2 = 0 then ({ l with h := l.newHead, a := 1 - l.a, left := l.h.n }, (d.putHead (1 - l.a) l.newHead).1, 0) else ({ l with dead := (d.putHead (1 - l.a) l.newHead).2 == 4 }, (d.putHead (1 - l.a) l.newHead).1, (d.putHead (1 - l.a) l.newHead).2) := by
    simp [Lm.trimS, hd]
  rw [e]
  have hset := onV_set d.on (1 - l.a) (hsec l.newHead) ha
  have hW := h.trimmed hN (d.on.set (1 - l.a) (hsec l.newHead)) (by simp) hset.1 hset.2 hd
  rcases putHead_out d hu (1 - l.a) l.newHead ha h.hok.note_ with ⟨h1, h2, h3⟩ | ⟨h1, h2, h3⟩
  · left
    rw [if_pos h1]
    refine ⟨rfl, ?_, h3⟩
    show Wi (d.putHead (1 - l.a) l.newHead).1.on _ _ _
    rw [h2]
    exact hW
  · right
    rw [if_neg (by rw [h1]; decide)]
    refine ⟨h1, ?_, h3⟩
    show Wc (d.putHead (1 - l.a) l.newHead).1.on _ _ ∨ Wc (d.putHead (1 - l.a) l.newHead).1.on _ _
    rcases h2 with h2 | h2
    · rw [h2]
      exact .inr hW.cut
    · rw [h2]
      exact .inl (h.cut.mono (by omega))
theorem trim_unlit (h : Wo d.on l N) (hd : l.dead = false) (hu : Up d) (hlit : d.lit = false) : (l.trimS d).2.2 = 0 ∧ (l.trimS d).2.1.lit = false := by
  have hlo := h.hok.lo
  have ha : 1 - l.a < d.on.length := by have := h.len; omega
  obtain ⟨h1, h2⟩ := putHead_unlit d hu hlit (1 - l.a) l.newHead ha h.hok.note_
  have e : l.trimS d = ({ l with h := l.newHead, a := 1 - l.a, left := l.h.n }, (d.putHead (1 - l.a) l.newHead).1, 0) := by
    simp [Lm.trimS, hd, h1]
  rw [e]
  exact ⟨rfl, h2⟩
theorem trim_short (h : Wo d.on l N) (hd : l.dead = false) (hu : Up d) (hlit : d.lit = true) (hleft : d.left ≤ 1) : (l.trimS d).2.2 = 4 := by
  have hlo := h.hok.lo
  have ha : 1 - l.a < d.on.length := by have := h.len; omega
  have h1 := putHead_short d hu hlit hleft (1 - l.a) l.newHead ha h.hok.note_
  simp [Lm.trimS, hd, h1]
theorem shLe (q : Nat) (tx : List UInt8) : ∀ s ∈ cutL q tx, s.t.length ≤ 497 := fun s hs => by
  simp only [cutL, List.mem_map] at hs
  obtain ⟨i, _, rfl⟩ := hs
  exact shAt_le _ _ _
theorem commit_out (h : Wi d.on l ss N) (tx : List UInt8) (hN : N + 512 < 18446744073709551616) (hu : Up d) :
    ((l.commitS d tx).2.2 = 0 ∧ (∃ ss', Wi (l.commitS d tx).2.1.on (l.commitS d tx).1 ss' (N + 512) ∧ parse [] ss' = parse [] ss ++ [tx]) ∧ Up (l.commitS d tx).2.1) ∨
    (((l.commitS d tx).2.2 = 5 ∨ (l.commitS d tx).2.2 = 6) ∧ l.commitS d tx = (l, d, (l.commitS d tx).2.2)) ∨
    ((l.commitS d tx).2.2 = 4 ∧ (Wc (l.commitS d tx).2.1.on (parse [] ss) (N + 512) ∨ Wc (l.commitS d tx).2.1.on (parse [] ss ++ [tx]) (N + 512)) ∧ Off (l.commitS d tx).2.1) := by
  have hd := h.alive
  have hn : 0 < l.h.n := by have := h.o.hok.lo; omega
  have hhi := h.o.hok.hi
  have hnN := h.o.nextN
  have hfew := h.few
  by_cases h1 : l.h.n < need tx.length
  · right; left
    have e : l.commitS d tx = (l, d, 6) := by simp [Lm.commitS, hd, h1]
    rw [e]
    exact ⟨.inr rfl, rfl⟩
  by_cases h2 : l.left < need tx.length
  · right; left
    have e : l.commitS d tx = (l, d, 5) := by simp [Lm.commitS, hd, h1, h2]
    rw [e]
    exact ⟨.inl rfl, rfl⟩
  have hle : need tx.length ≤ l.left := by omega
  have e : l.commitS d tx = if (Dm.putAll l.h.n (cutL l.next tx) d).2 = 0 then ({ l with next := (l.next + need tx.length) % 18446744073709551616, left := l.left - need tx.length }, (Dm.putAll l.h.n (cutL l.next tx) d).1, 0) else ({ l with dead := (Dm.putAll l.h.n (cutL l.next tx) d).2 == 4 }, (Dm.putAll l.h.n (cutL l.next tx) d).1, (Dm.putAll l.h.n (cutL l.next tx) d).2) := by
    simp [Lm.commitS, hd, h1, h2]
  rw [e]
  have hw0 : ∀ m, d.wait ++ wrS l.h.n m = wrS l.h.n m := fun m => by rw [hu.wait, List.nil_append]
  have hq : l.next + need tx.length ≤ 18446744073709551616 := by omega
  rcases putAll_out l.h.n hn (cutL l.next tx) d hu.power (shLe _ _) h.o.len with ⟨g1, g2, g3⟩ | ⟨g1, ⟨k, f, g2, g3⟩, g4⟩
  · left
    rw [if_pos g1]
    rw [hw0] at g2
    have hs := some_settle (fun _ => true) d.on l.h.n l.next tx (need tx.length) (Nat.le_refl _) hq hn h.o.len
    rw [List.take_of_length_le (by rw [cutL_length]; exact Nat.le_refl _)] at hs
    have hwi := h.done tx hle (by omega) _ (settleL_length _ _ _) hs (all_settle d.on l.h.n l.next tx hq hn h.o.len (by omega))
    refine ⟨rfl, ⟨ss ++ cutL l.next tx, ?_, ?_⟩, g3⟩
    · show Wi (Dm.putAll l.h.n (cutL l.next tx) d).1.on _ _ _
      rw [g2]
      exact hwi.mono (by omega)
    · rw [parse_append, h.rem, (rem_whole _ _).1]
  · right; right
    rw [if_neg (by rw [g1]; decide)]
    rw [hw0] at g3
    have hs := some_settle f d.on l.h.n l.next tx k (by rwa [cutL_length] at g2) hq hn h.o.len
    refine ⟨g1, ?_, g4⟩
    show Wc (Dm.putAll l.h.n (cutL l.next tx) d).1.on _ _ ∨ Wc (Dm.putAll l.h.n (cutL l.next tx) d).1.on _ _
    rw [g3]
    rcases h.lost tx hle (by omega) _ (settleL_length _ _ _) hs with x | x
    · exact .inl (x.mono (by omega))
    · exact .inr (x.mono (by omega))
theorem open_out {u : List (List UInt8)} (h : Wc d.on u N) (hN : N < 18446744073709551616) (hu : Up d) : ∃ l, d.openS = (some (l, u), 0) ∧ Wo d.on l N ∧ l.dead = false ∧ l.left = 0 ∧ textsF (onV d.on) l.h.n l.h.f = u := by
  obtain ⟨hd, a, h1, h2, h3, h4, h5, h6, h7⟩ := h.out
  have hn : 0 < hd.n := by have := h2.lo; omega
  obtain ⟨n1, n2, n3⟩ := nextF_small (V := onV d.on) hn h5 hN h6
  refine ⟨⟨hd, a, nextF (onV d.on) hd.n hd.f, 0, false⟩, ?_, ⟨h1, h2, h3, h4, n1, n2, n3⟩, rfl, rfl, h7⟩
  have e : d.heads = some (hd, a) := by unfold Dm.heads; rw [Up.now hu.wait]; exact h3
  simp [Dm.openS, hu.power, e, h1, Up.now hu.wait, h7]
end

/-! ### a new disk -/
def zsec0 : List UInt8 := List.replicate 512 0
theorem headS_zero : headS zsec0 = none := by
  unfold headS
  rw [if_neg]
  rintro ⟨_, h, _⟩
  revert h
  decide
theorem takeS_zero : takeS zsec0 = none := takeS_kind (by decide) (by decide)
theorem fresh_heads (n : Nat) : countS (headS (onV (List.replicate n zsec0) 0)) (headS (onV (List.replicate n zsec0) 1)) = none := by
  have h : ∀ a, headS (onV (List.replicate n zsec0) a) = none := fun a => by
    unfold onV
    rcases Nat.lt_or_ge a n with hl | hg
    · simp [List.getD, hl, headS_zero]
    · simp [List.getD, Nat.not_lt.2 hg, headS_nil]
  rw [h, h]
  rfl
theorem fresh_sheet (n m q : Nat) : sheetF (onV (List.replicate n zsec0)) m q = none := by
  have h : takeS (onV (List.replicate n zsec0) (2 + q % m)) = none := by
    unfold onV
    rcases Nat.lt_or_ge (2 + q % m) n with hl | hg
    · simp [List.getD, hl, takeS_zero]
    · have : takeS ([] : List UInt8) = none := by unfold takeS; rw [if_neg (by simp)]
      simp [List.getD, Nat.not_lt.2 hg, this]
  unfold sheetF
  rw [h]
/-- A format of a new disk. -/
theorem format_new {d : Dm} (hu : Up d) (hlit : d.lit = false) (n m : Nat) (hon : d.on = List.replicate m zsec0) (note : List UInt8) (h1 : 96 ≤ n) (h2 : n ≤ 512) (h3 : 2 + n ≤ m) (h4 : note.length ≤ 64) :
    (d.formatS n note).2 = 0 ∧ Wc (d.formatS n note).1.on [] 1 ∧ Up (d.formatS n note).1 ∧ (d.formatS n note).1.lit = false ∧
    ∃ l, (d.formatS n note).1.openS = (some (l, []), 0) ∧ Wo (d.formatS n note).1.on l 1 ∧ l.dead = false ∧ l.left = 0 ∧ l.h.n = n ∧ l.h.note = note := by
  have hheads : d.heads = none := by
    unfold Dm.heads
    rw [Up.now hu.wait, hon]
    exact fresh_heads m
  have hnext : nextF d.nowAt n 1 = 1 := by
    refine (nextF_is d.nowAt n 1 (by omega)).one ⟨Nat.le_refl _, fun q s hq => ?_, .inl rfl⟩
    rw [Up.now hu.wait, hon, fresh_sheet] at hq
    cases hq
  have hlen : d.on.length = m := by rw [hon]; simp
  have hmay : mayFormat d n note = true := by
    simp only [mayFormat, Bool.and_eq_true, decide_eq_true_eq]
    omega
  have e : d.formatS n note = d.putHead 1 ⟨1, 1, n, note⟩ := by
    have e1 : ((n : Int)).toNat = n := by omega
    simp [Dm.formatS, hmay, hu.power, e1, hnext, Dm.nextH, hheads]
  rw [e]
  obtain ⟨p1, p2⟩ := putHead_unlit d hu hlit 1 ⟨1, 1, n, note⟩ (by omega) h4
  rcases putHead_out d hu 1 ⟨1, 1, n, note⟩ (by omega) h4 with ⟨_, g2, g3⟩ | ⟨g1, _⟩
  · obtain ⟨s1, s2⟩ := onV_set d.on 1 (hsec ⟨1, 1, n, note⟩) (by omega)
    have hok : (⟨1, 1, n, note⟩ : Hd).ok := ⟨(show 1 < 18446744073709551616 by decide), (show 1 < 18446744073709551616 by decide), h1, h2, h4⟩
    have hz : headS (onV d.on 0) = none := by
      have := fresh_heads m
      rw [← hon] at this
      rcases hx : headS (onV d.on 0) with _ | x
      · rfl
      · rw [hx] at this
        rcases hy : headS (onV d.on 1) with _ | y <;> rw [hy] at this <;> simp only [countS] at this
        · cases this
        · split at this <;> cases this
    have hF : ∀ q, sheetF (onV (d.putHead 1 ⟨1, 1, n, note⟩).1.on) n q = none := fun q => by
      have := fresh_sheet m n q
      rw [← hon] at this
      rw [g2]
      unfold sheetF at this ⊢
      rw [s2 (2 + q % n) (by omega)]
      exact this
    have hc : countS (headS (onV (d.putHead 1 ⟨1, 1, n, note⟩).1.on 0)) (headS (onV (d.putHead 1 ⟨1, 1, n, note⟩).1.on 1)) = some (⟨1, 1, n, note⟩, 1) := by
      rw [g2, s2 0 (by decide), s1, hz, headS_hsec _ hok]
      rfl
    have hl2 : 2 + n ≤ (d.putHead 1 ⟨1, 1, n, note⟩).1.on.length := by rw [g2, List.length_set]; omega
    have ht : textsF (onV (d.putHead 1 ⟨1, 1, n, note⟩).1.on) n 1 = [] := by
      unfold textsF
      rw [runF_of _ [] (n + 1) 1 (by simp) (fun i s hi => by simp at hi) (hF _)]
      rfl
    have hwc : Wc (d.putHead 1 ⟨1, 1, n, note⟩).1.on [] 1 := ⟨⟨⟨1, 1, n, note⟩, 1, hl2, hok, hc, Nat.le_refl _, Nat.le_refl _, (fun q s hq => by have := hF q; rw [this] at hq; cases hq), ht⟩⟩
    refine ⟨p1, hwc, g3, p2, ?_⟩
    have hhd : (d.putHead 1 ⟨1, 1, n, note⟩).1.heads = some (⟨1, 1, n, note⟩, 1) := by unfold Dm.heads; rw [Up.now g3.wait]; exact hc
    obtain ⟨n1, n2, n3⟩ := nextF_small (V := onV (d.putHead 1 ⟨1, 1, n, note⟩).1.on) (n := n) (f := 1) (M := 1) (by omega) (Nat.le_refl _) (by decide) (fun q s hq => by have := hF q; rw [this] at hq; cases hq)
    refine ⟨⟨⟨1, 1, n, note⟩, 1, nextF (onV (d.putHead 1 ⟨1, 1, n, note⟩).1.on) n 1, 0, false⟩, ?_, ⟨hl2, hok, hc, Nat.le_refl _, n1, n2, n3⟩, rfl, rfl, rfl, rfl⟩
    simp [Dm.openS, g3.power, hhd, hl2, Up.now g3.wait, ht]
  · rw [p1] at g1
    cases g1
end Go.Proofs.YtfcljcikajaedaaGreatDoor
