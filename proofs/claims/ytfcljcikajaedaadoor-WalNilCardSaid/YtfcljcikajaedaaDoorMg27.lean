/- What was flushed stays: what holds of a disk, of what its sectors are now, and of what they may be, act by act. No condition. -/
import Derived.Test.YtfcljcikajaedaaDoorMg26
namespace Go.Proofs.YtfcljcikajaedaaDoor
open Go.RowKit Go.Maps

theorem getD_set_same {α : Type} (l : List α) (k : Nat) (x y : α) (h : k < l.length) : (l.set k x).getD k y = x := by
  simp [List.getD, h]
theorem getD_set_other {α : Type} (l : List α) (k j : Nat) (x y : α) (h : k ≠ j) : (l.set k x).getD j y = l.getD j y := by
  simp [List.getD, h]
theorem getD_snoc {α : Type} (l : List α) (x y : α) (i : Nat) (h : i < l.length) : (l ++ [x]).getD i y = l.getD i y := by
  simp [List.getD, List.getElem?_append_left h]
theorem getD_end {α : Type} (l : List α) (x y : α) : (l ++ [x]).getD l.length y = x := by simp [List.getD]
theorem lastOf_lt (l : List (Nat × List UInt8)) (k i : Nat) (h : lastOf l k = some i) : i < l.length := by
  obtain ⟨b, hb⟩ := lastOf_get l k i h
  exact (List.getElem?_eq_some_iff.1 hb).1
/-- What a row of writes leaves in a sector. -/
def lastB (on : List (List UInt8)) (l : List (Nat × List UInt8)) (k : Nat) : List UInt8 := match lastOf l k with | some i => (l.getD i (0, [])).2 | none => on.getD k []
theorem lastB_snoc (on : List (List UInt8)) (l : List (Nat × List UInt8)) (x : Nat × List UInt8) (k : Nat) : lastB on (l ++ [x]) k = if x.1 = k then x.2 else lastB on l k := by
  unfold lastB
  rw [lastOf_snoc]
  by_cases e : x.1 = k
  · rw [if_pos e, if_pos e]
    dsimp only
    rw [getD_end]
  · rw [if_neg e, if_neg e]
    cases hl : lastOf l k with
    | none => rfl
    | some i =>
      dsimp only
      rw [getD_snoc _ _ _ _ (lastOf_lt l k i hl)]
theorem nowAt_eq (d : Dm) (k : Nat) : d.nowAt k = lastB d.on d.wait k := rfl
/-- All reach the disk: each sector is what the last one said. -/
theorem settle_all_get (on : List (List UInt8)) (l : List (Nat × List UInt8)) (hl : ∀ x ∈ l, x.1 < on.length) (k : Nat) (hk : k < on.length) : (settleL (fun _ => true) on l).getD k [] = lastB on l k := by
  induction l using snoc_ind with
  | h0 => rfl
  | h1 l x ih =>
    have ih' := ih fun y hy => hl y (by simp [hy])
    have hx := hl x (by simp)
    rw [settleL_snoc, if_pos rfl, lastB_snoc]
    by_cases e : x.1 = k
    · subst e
      rw [if_pos rfl, getD_set_same _ _ _ _ (by rw [settleL_length]; exact hx)]
    · rw [if_neg e, getD_set_other _ _ _ _ _ e, ih']
/-- Some reach the disk: each sector is what it was, or what one of them said. -/
theorem settle_mem (f : Nat → Bool) (on : List (List UInt8)) (l : List (Nat × List UInt8)) (hl : ∀ x ∈ l, x.1 < on.length) (k : Nat) :
    (settleL f on l).getD k [] = on.getD k [] ∨ ∃ x ∈ l, x.1 = k ∧ (settleL f on l).getD k [] = x.2 := by
  induction l using snoc_ind with
  | h0 => exact .inl rfl
  | h1 l x ih =>
    have ih' := ih fun y hy => hl y (by simp [hy])
    have hx := hl x (by simp)
    have old : (settleL f on l).getD k [] = on.getD k [] ∨ ∃ y ∈ l ++ [x], y.1 = k ∧ (settleL f on l).getD k [] = y.2 := by
      rcases ih' with h | ⟨y, hy, h1, h2⟩
      · exact .inl h
      · exact .inr ⟨y, by simp [hy], h1, h2⟩
    rw [settleL_snoc]
    split
    · by_cases e : x.1 = k
      · right
        exact ⟨x, by simp, e, by rw [← e, getD_set_same _ _ _ _ (by rw [settleL_length]; exact hx)]⟩
      · rw [getD_set_other _ _ _ _ _ e]
        exact old
    · exact old

/-- What may be. -/
structure KI (d : Dm) (now : List (List UInt8)) (may : List (List (List UInt8))) : Prop where
  nlen : now.length = d.on.length
  mlen : may.length = d.on.length
  onMay : ∀ k, k < d.on.length → d.on.getD k [] ∈ may.getD k []
  waitMay : ∀ x ∈ d.wait, x.2 ∈ may.getD x.1 []
  off : d.power = false → d.wait = []
/-- What is now. -/
def KN (d : Dm) (now : List (List UInt8)) : Prop := ∀ k, k < d.on.length → d.nowAt k = now.getD k []

section
variable {d : Dm} {now : List (List UInt8)} {may : List (List (List UInt8))}
theorem KI.lose (ok : d.ok) (h : KI d now may) (l : List UInt8) : KI (d.lose l) now may := by
  have hlen : (d.lose l).on.length = d.on.length := by simp [Dm.lose, settleL_length]
  refine ⟨by rw [hlen]; exact h.nlen, by rw [hlen]; exact h.mlen, fun k hk => ?_, fun x hx => by simp [Dm.lose] at hx, fun _ => rfl⟩
  rw [hlen] at hk
  show (settleL (bitOf l) d.on d.wait).getD k [] ∈ _
  rcases settle_mem (bitOf l) d.on d.wait ok.at_ k with e | ⟨x, hx, e1, e2⟩
  · rw [e]; exact h.onMay k hk
  · rw [e2, ← e1]; exact h.waitMay x hx
theorem KI.flush (ok : d.ok) (h : KI d now may) (hn : KN d now) : KI d.act.all now (now.map fun s => [s]) ∧ KN d.act.all now := by
  have hlen : d.act.all.on.length = d.on.length := by simp [Dm.all, Dm.act, settleL_length]
  have hon : ∀ k, k < d.on.length → d.act.all.on.getD k [] = now.getD k [] := fun k hk => by
    show (settleL (fun _ => true) d.on d.wait).getD k [] = _
    rw [settle_all_get _ _ ok.at_ k hk, ← nowAt_eq]
    exact hn k hk
  refine ⟨⟨by rw [hlen]; exact h.nlen, by rw [hlen]; simpa using h.nlen, fun k hk => ?_, fun x hx => by simp [Dm.all] at hx, fun _ => rfl⟩, fun k hk => ?_⟩
  · rw [hlen] at hk
    rw [hon k hk]
    have hk2 : k < now.length := by rw [h.nlen]; exact hk
    simp [List.getD, hk2]
  · rw [hlen] at hk
    rw [nowAt_eq]
    exact hon k hk
theorem KI.push (h : KI d now may) (hn : KN d now) (a : Nat) (l : List UInt8) (ha : a < d.on.length) (hp : d.power = true) :
    KI (d.act.push a l) (now.set a l) (may.set a (may.getD a [] ++ [l])) ∧ KN (d.act.push a l) (now.set a l) := by
  refine ⟨⟨by simpa [Dm.push, Dm.act] using h.nlen, by simpa [Dm.push, Dm.act] using h.mlen, fun k hk => ?_, fun x hx => ?_, fun hq => ?_⟩, fun k hk => ?_⟩
  · have h1 := h.onMay k hk
    by_cases e : a = k
    · subst e
      rw [getD_set_same _ _ _ _ (by rw [h.mlen]; exact ha)]
      exact List.mem_append_left _ h1
    · rw [getD_set_other _ _ _ _ _ e]; exact h1
  · have hx' : x ∈ d.wait ++ [(a, l)] := hx
    rcases List.mem_append.1 hx' with hx | hx
    · have h1 := h.waitMay x hx
      by_cases e : a = x.1
      · rw [← e, getD_set_same _ _ _ _ (by rw [h.mlen]; exact ha)]
        rw [← e] at h1
        exact List.mem_append_left _ h1
      · rw [getD_set_other _ _ _ _ _ e]; exact h1
    · obtain rfl : x = (a, l) := by simpa using hx
      dsimp only
      rw [getD_set_same _ _ _ _ (by rw [h.mlen]; exact ha)]
      simp
  · have : d.power = false := hq
    rw [hp] at this; cases this
  · rw [nowAt_eq]
    show lastB d.on (d.wait ++ [(a, l)]) k = _
    rw [lastB_snoc]
    dsimp only
    by_cases e : a = k
    · subst e
      rw [if_pos rfl, getD_set_same _ _ _ _ (by rw [h.nlen]; exact ha)]
    · rw [if_neg e, getD_set_other _ _ _ _ _ e]
      exact hn k hk
/-- Of a disk that lies alike. -/
theorem KI.alike {d' : Dm} (h : KI d now may) (h1 : d'.on = d.on) (h2 : d'.wait = d.wait) (h3 : d'.power = false → d.power = false) : KI d' now may :=
  ⟨by rw [h1]; exact h.nlen, by rw [h1]; exact h.mlen, fun k hk => by rw [h1] at hk ⊢; exact h.onMay k hk, fun x hx => by rw [h2] at hx; exact h.waitMay x hx, fun hp => by rw [h2]; exact h.off (h3 hp)⟩
theorem KN.alike {d' : Dm} (h : KN d now) (h1 : d'.on = d.on) (h2 : d'.wait = d.wait) : KN d' now := fun k hk => by
  rw [nowAt_eq, h1, h2, ← nowAt_eq]
  rw [h1] at hk
  exact h k hk
end
/-- The power has gone: what is on the disk is now, for the first j sectors told anew. -/
def nowTo (d : Dm) (now : List (List UInt8)) (j : Nat) : List (List UInt8) := d.on.take j ++ now.drop j
def mayTo (d : Dm) (may : List (List (List UInt8))) (j : Nat) : List (List (List UInt8)) := (d.on.take j).map (fun s => [s]) ++ may.drop j
def nowIf (t : Bool) (d : Dm) (now : List (List UInt8)) (j : Nat) : List (List UInt8) := if t then nowTo d now j else now
def mayIf (t : Bool) (d : Dm) (may : List (List (List UInt8))) (j : Nat) : List (List (List UInt8)) := if t then mayTo d may j else may
theorem upTo_set {α : Type} (a b : List α) (j : Nat) (x : α) (h : j < a.length) (hb : b.length = a.length) (hx : a[j]? = some x) : (a.take j ++ b.drop j).set j x = a.take (j + 1) ++ b.drop (j + 1) := by
  have hl : (a.take j).length = j := by simp; omega
  rw [List.set_append_right _ _ (by omega), hl, Nat.sub_self]
  have e : b.drop j = b[j]'(by omega) :: b.drop (j + 1) := List.drop_eq_getElem_cons (by omega)
  have e2 : a.take (j + 1) = a.take j ++ [x] := by
    rw [List.take_add_one, hx]; rfl
  rw [e, e2, List.set_cons_zero]
  simp
section
variable {d : Dm} {now : List (List UInt8)} {may : List (List (List UInt8))}
theorem nowIf_zero (t : Bool) : nowIf t d now 0 = now := by cases t <;> simp [nowIf, nowTo]
theorem mayIf_zero (t : Bool) : mayIf t d may 0 = may := by cases t <;> simp [mayIf, mayTo]
theorem nowIf_length (t : Bool) (j : Nat) (h : now.length = d.on.length) (hj : j ≤ d.on.length) : (nowIf t d now j).length = d.on.length := by cases t <;> simp [nowIf, nowTo, h]; omega
theorem mayIf_length (t : Bool) (j : Nat) (h : may.length = d.on.length) (hj : j ≤ d.on.length) : (mayIf t d may j).length = d.on.length := by cases t <;> simp [mayIf, mayTo, h]; omega
theorem mayIf_get (t : Bool) (j : Nat) (hj : j < d.on.length) : (mayIf t d may j).getD j [] = may.getD j [] := by
  cases t
  · rfl
  · show (mayTo d may j).getD j [] = _
    have hl : ((d.on.take j).map (fun s => [s])).length = j := by simp; omega
    simp only [mayTo, List.getD]
    rw [List.getElem?_append_right (by omega), hl, Nat.sub_self, List.getElem?_drop, Nat.add_zero]
theorem nowIf_next (j : Nat) (h : now.length = d.on.length) (hj : j < d.on.length) : (nowIf true d now j).set j (d.on.getD j []) = nowIf true d now (j + 1) :=
  upTo_set d.on now j _ hj h (by simp [List.getD, hj])
theorem mayIf_next (j : Nat) (h : may.length = d.on.length) (hj : j < d.on.length) : (mayIf true d may j).set j [d.on.getD j []] = mayIf true d may (j + 1) := by
  have := upTo_set (d.on.map fun s => [s]) may j [d.on.getD j []] (by simpa using hj) (by simpa using h) (by simp [List.getD, hj])
  simpa [mayIf, mayTo, List.map_take] using this
/-- Behind the look: what holds at the next act's beginning. -/
theorem after_look (p : Bool) (ki : KI d now may) (kn : (p && !d.power) = false → KN d now) :
    KI d (nowIf (p && !d.power) d now d.on.length) (mayIf (p && !d.power) d may d.on.length) ∧ KN d (nowIf (p && !d.power) d now d.on.length) := by
  rcases ht : (p && !d.power) with _ | _
  · exact ⟨ki, kn ht⟩
  · have hp : d.power = false := by
      simp at ht; exact ht.2
    have hw := ki.off hp
    have e1 : nowIf true d now d.on.length = d.on := by
      show nowTo d now d.on.length = _
      rw [nowTo, List.take_length, List.drop_eq_nil_of_le (by rw [ki.nlen]; exact Nat.le_refl _), List.append_nil]
    have e2 : mayIf true d may d.on.length = d.on.map fun s => [s] := by
      show mayTo d may d.on.length = _
      rw [mayTo, List.take_length, List.drop_eq_nil_of_le (by rw [ki.mlen]; exact Nat.le_refl _), List.append_nil]
    rw [e1, e2]
    refine ⟨⟨rfl, by simp, fun k hk => by simp [List.getD, hk], fun x hx => (by rw [hw] at hx; exact absurd hx (by simp)), fun _ => hw⟩, fun k hk => ?_⟩
    rw [nowAt_eq, hw]
    rfl
/-- Is it among the first m? -/
def among (l : List (List UInt8)) (s : List UInt8) (m : Nat) : Bool := (l.take m).any fun x => x == s
theorem among_next (l : List (List UInt8)) (s : List UInt8) (m : Nat) (h : m < l.length) : among l s (m + 1) = (among l s m || (l.getD m []) == s) := by
  unfold among
  rw [dtake_snoc l m h, List.any_append]
  simp [List.getD, h]
theorem among_all (l : List (List UInt8)) (s : List UInt8) (h : s ∈ l) : among l s l.length = true := by
  unfold among
  rw [List.take_length, List.any_eq_true]
  exact ⟨s, h, by simp⟩
end
end Go.Proofs.YtfcljcikajaedaaDoor
