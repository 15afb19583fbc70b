/- The law of pages, part 8 of 55: WlMath WlStep. -/
import Derived.Test.YtepaeliamhjgiaaGreatDoorMu1
import Derived.Test.YtepaeliamhjgiaaGreatDoorMu7
import Derived.Test.YtepaeliamhjgiaaGreatDoorMu4
set_option maxHeartbeats 16000000
set_option maxRecDepth 100000
namespace Go.Proofs.YtepaeliamhjgiaaGreatDoor
def onV (on : List (List UInt8)) (a : Nat) : List UInt8 := on.getD a []
theorem countS_new {x y : Option Hd} {h h' : Hd} {a : Nat} (hc : countS x y = some (h, a)) (hg : h.g < h'.g) : a <= 1 /\ (a = 0 -> countS x (some h') = some (h', 1)) /\ (a = 1 -> countS (some h') y = some (h', 0)) := by
 rcases x with _ | x <;> rcases y with _ | y
 ·simp [countS] at hc
 ·simp only [countS, Option.some.injEq, Prod.mk.injEq] at hc
  obtain ⟨rfl, rfl⟩ := hc
  refine ⟨Nat.le_refl _, fun e => by omega, fun _ => ?_⟩
  simp only [countS]
  rw [if_neg (by omega)]
 ·simp only [countS, Option.some.injEq, Prod.mk.injEq] at hc
  obtain ⟨rfl, rfl⟩ := hc
  refine ⟨by omega, fun _ => ?_, fun e => by omega⟩
  simp only [countS]
  rw [if_pos hg]
 ·simp only [countS] at hc
  split at hc
  ·simp only [Option.some.injEq, Prod.mk.injEq] at hc
   obtain ⟨rfl, rfl⟩ := hc
   refine ⟨Nat.le_refl _, fun e => by omega, fun _ => ?_⟩
   simp only [countS]
   rw [if_neg (by omega)]
  ·simp only [Option.some.injEq, Prod.mk.injEq] at hc
   obtain ⟨rfl, rfl⟩ := hc
   refine ⟨by omega, fun _ => ?_, fun e => by omega⟩
   simp only [countS]
   rw [if_pos hg]
theorem countS_at {x y : Option Hd} {h : Hd} {a : Nat} (hc : countS x y = some (h, a)) : (a = 0 /\ x = some h) \/ (a = 1 /\ y = some h) := by
 rcases x with _ | x <;> rcases y with _ | y
 ·simp [countS] at hc
 ·simp only [countS, Option.some.injEq, Prod.mk.injEq] at hc
  obtain ⟨rfl, rfl⟩ := hc
  exact .inr ⟨rfl, rfl⟩
 ·simp only [countS, Option.some.injEq, Prod.mk.injEq] at hc
  obtain ⟨rfl, rfl⟩ := hc
  exact .inl ⟨rfl, rfl⟩
 ·simp only [countS] at hc
  split at hc
  ·simp only [Option.some.injEq, Prod.mk.injEq] at hc
   obtain ⟨rfl, rfl⟩ := hc
   exact .inr ⟨rfl, rfl⟩
  ·simp only [Option.some.injEq, Prod.mk.injEq] at hc
   obtain ⟨rfl, rfl⟩ := hc
   exact .inl ⟨rfl, rfl⟩
theorem mod_apart {n x y : Nat} (h : x < y) (hn : y - x < n) : x % n ≠ y % n := by
 intro e
 have h1 := Nat.sub_mod_eq_zero_of_mod_eq e.symm
 rw [Nat.mod_eq_of_lt hn] at h1
 omega
structure Wo (on : List (List UInt8)) (l : Lm) (N : Nat) : Prop where
 len : 2 + l.h.n <= on.length
 hok : l.h.ok
 heads : countS (headS (onV on 0)) (headS (onV on 1)) = some (l.h, l.a)
 gN : l.h.g <= N
 first : l.h.f <= l.next
 nextN : l.next <= N
 off : ∀ q, l.next <= q -> sheetF (onV on) l.h.n q = none
structure Wi (on : List (List UInt8)) (l : Lm) (ss : List Sh) (N : Nat) : Prop where
 o : Wo on l N
 run : ∀ i s, ss[i]? = some s -> sheetF (onV on) l.h.n (l.h.f + i) = some s
 next : l.h.f + ss.length = l.next
 rem : remT [] ss = []
 few : ss.length + l.left = l.h.n
 alive : l.dead = false
structure Wc (on : List (List UInt8)) (u : List (List UInt8)) (N : Nat) : Prop where
 out : ∃ h a, 2 + h.n <= on.length /\ h.ok /\ countS (headS (onV on 0)) (headS (onV on 1)) = some (h, a) /\ h.g <= N /\ h.f <= N /\ (∀ q s, sheetF (onV on) h.n q = some s -> q < N) /\ textsF (onV on) h.n h.f = u
section
variable {on : List (List UInt8)} {l : Lm} {ss : List Sh} {N : Nat}
theorem Wi.texts (h : Wi on l ss N) : textsF (onV on) l.h.n l.h.f = parse [] ss := by
 unfold textsF
 rw [runF_of (sheetF (onV on) l.h.n) ss (l.h.n + 1) l.h.f (by have := h.few; omega) h.run (by rw [h.next]; exact h.o.off _ (Nat.le_refl _))]
theorem Wo.bound (h : Wo on l N) : ∀ q s, sheetF (onV on) l.h.n q = some s -> q < l.next := fun q s hs => by
 rcases Nat.lt_or_ge q l.next with hl | hg
 ·exact hl
 ·have := h.off q hg
  rw [this] at hs
  cases hs
theorem Wo.cut (h : Wo on l N) : Wc on (textsF (onV on) l.h.n l.h.f) N :=
 ⟨⟨l.h, l.a, h.len, h.hok, h.heads, h.gN, by have := h.first; have := h.nextN; omega, fun q s hs => by have := h.bound q s hs; have := h.nextN; omega, rfl⟩⟩
theorem Wi.cut (h : Wi on l ss N) : Wc on (parse [] ss) N := by
 have := h.o.cut
 rwa [h.texts] at this
theorem Wc.mono {u : List (List UInt8)} {N' : Nat} (h : Wc on u N) (hn : N <= N') : Wc on u N' := by
 obtain ⟨hd, a, h1, h2, h3, h4, h5, h6, h7⟩ := h.out
 exact ⟨⟨hd, a, h1, h2, h3, by omega, by omega, fun q s hs => by have := h6 q s hs; omega, h7⟩⟩
theorem Wo.mono {N' : Nat} (h : Wo on l N) (hn : N <= N') : Wo on l N' := ⟨h.len, h.hok, h.heads, by have := h.gN; omega, h.first, by have := h.nextN; omega, h.off⟩
theorem Wi.mono {N' : Nat} (h : Wi on l ss N) (hn : N <= N') : Wi on l ss N' := ⟨h.o.mono hn, h.run, h.next, h.rem, h.few, h.alive⟩
theorem nextF_small {V : Nat -> List UInt8} {n f M : Nat} (hn : 0 < n) (hf : f <= M) (hM : M < 18446744073709551616) (hs : ∀ q s, sheetF V n q = some s -> q < M) : f <= nextF V n f /\ nextF V n f <= M /\ ∀ q, nextF V n f <= q -> sheetF V n q = none := by
 obtain ⟨h1, h2, h3⟩ := nextF_is V n f hn
 refine ⟨h1, ?_, fun q hq => ?_⟩
 ·rcases h3 with e | ⟨q, s, hq, e⟩
  ·omega
  ·have := hs q s hq
   rw [e, Nat.mod_eq_of_lt (by omega)]
   omega
 ·rcases hx : sheetF V n q with _ | s
  ·rfl
  ·have a := hs q s hx
   have b := h2 q s hx
   rw [Nat.mod_eq_of_lt (by omega)] at b
   omega
theorem headsOf_set (h : Wo on l N) (hN : N + 1 < 18446744073709551616) (on' : List (List UInt8)) (ha : onV on' (1 - l.a) = hsec l.newHead) (hb : ∀ k, k ≠ 1 - l.a -> onV on' k = onV on k) :
  l.newHead.ok /\ l.newHead.g <= N + 1 /\ countS (headS (onV on' 0)) (headS (onV on' 1)) = some (l.newHead, 1 - l.a) /\ sheetF (onV on') l.h.n = sheetF (onV on) l.h.n := by
 have hg := h.gN
 have e : l.newHead.g = l.h.g + 1 := Nat.mod_eq_of_lt (by omega)
 have hok : l.newHead.ok := ⟨by rw [e]; omega, by have := h.nextN; show l.next < _; omega, h.hok.lo, h.hok.hi, h.hok.note_⟩
 obtain ⟨c1, c2, c3⟩ := countS_new (h' := l.newHead) h.heads (by rw [e]; omega)
 refine ⟨hok, by omega, ?_, ?_⟩
 ·have hh := headS_hsec _ hok
  rcases Nat.eq_zero_or_pos l.a with e0 | e0
  ·rw [e0] at ha hb ⊢
   rw [ha, hb 0 (by decide), hh]
   exact c2 e0
  ·have e1 : l.a = 1 := by omega
   rw [e1] at ha hb ⊢
   rw [ha, hb 1 (by decide), hh]
   exact c3 e1
 ·funext q
  unfold sheetF
  rw [hb (2 + q % l.h.n) (by omega)]
theorem Wo.trimmed (h : Wo on l N) (hN : N + 1 < 18446744073709551616) (on' : List (List UInt8)) (hl : on'.length = on.length) (ha : onV on' (1 - l.a) = hsec l.newHead) (hb : ∀ k, k ≠ 1 - l.a -> onV on' k = onV on k) (hd : l.dead = false) :
  Wi on' { l with h := l.newHead, a := 1 - l.a, left := l.h.n } [] (N + 1) := by
 obtain ⟨h1, h2, h3, h4⟩ := headsOf_set h hN on' ha hb
 refine ⟨⟨by rw [hl]; exact h.len, h1, h3, h2, Nat.le_refl _, by have := h.nextN; show l.next <= N + 1; omega, fun q hq => ?_⟩, fun i s hi => by simp at hi, rfl, rfl, by simp [Lm.newHead], hd⟩
 show sheetF (onV on') l.h.n q = none
 rw [h4]
 exact h.off q hq
def Some_ (on on' : List (List UInt8)) (n q : Nat) (tx : List UInt8) : Prop := ∀ a, onV on' a = onV on a \/ ∃ i, i < need tx.length /\ a = 2 + (q + i) % n /\ onV on' a = secL (shAt q tx i).q (shAt q tx i).last (shAt q tx i).t
theorem take_shAt (q : Nat) (tx : List UInt8) (i : Nat) : takeS (secL (shAt q tx i).q (shAt q tx i).last (shAt q tx i).t) = some (shAt q tx i) :=
 takeS_secL _ _ _ (shAt_lt q tx i) (shAt_le q tx i)
theorem shAt_q (q : Nat) (tx : List UInt8) (i : Nat) (h : q + i < 18446744073709551616) : (shAt q tx i).q = q + i := Nat.mod_eq_of_lt h
theorem Wi.part (h : Wi on l ss N) (tx : List UInt8) (hl : need tx.length <= l.left) (hN : N + need tx.length < 18446744073709551616) (on' : List (List UInt8)) (_hlen : on'.length = on.length) (hs : Some_ on on' l.h.n l.next tx) :
  (countS (headS (onV on' 0)) (headS (onV on' 1)) = some (l.h, l.a)) /\ (∀ i s, ss[i]? = some s -> sheetF (onV on') l.h.n (l.h.f + i) = some s) /\
  (∀ q, l.next <= q -> sheetF (onV on') l.h.n q = none \/ ∃ i, i < need tx.length /\ q = l.next + i /\ sheetF (onV on') l.h.n q = some (shAt l.next tx i)) := by
 have hn : 0 < l.h.n := by have := h.o.hok.lo; omega
 have hnN := h.o.nextN
 have hfew := h.few
 have hnx := h.next
 refine ⟨?_, fun i s hi => ?_, fun q hq => ?_⟩
 ·have e0 : onV on' 0 = onV on 0 := by
   rcases hs 0 with e | ⟨i, _, e, _⟩
   ·exact e
   ·omega
  have e1 : onV on' 1 = onV on 1 := by
   rcases hs 1 with e | ⟨i, _, e, _⟩
   ·exact e
   ·omega
  rw [e0, e1]
  exact h.o.heads
 ·have hil : i < ss.length := (List.getElem?_eq_some_iff.1 hi).1
  have := h.run i s hi
  unfold sheetF at this ⊢
  rcases hs (2 + (l.h.f + i) % l.h.n) with e | ⟨j, hj, e, _⟩
  ·rw [e]; exact this
  ·exfalso
   exact mod_apart (n := l.h.n) (show l.h.f + i < l.next + j by omega) (by omega) (by omega)
 ·rcases hs (2 + q % l.h.n) with e | ⟨j, hj, e, e2⟩
  ·left
   have := h.o.off q hq
   unfold sheetF at this ⊢
   rw [e]; exact this
  ·unfold sheetF
   rw [e2, take_shAt]
   dsimp only
   rw [shAt_q _ _ _ (by omega)]
   by_cases hqj : l.next + j = q
   ·right
    exact ⟨j, hj, hqj.symm, by rw [if_pos hqj]⟩
   ·left
    rw [if_neg hqj]
theorem upto_all (F : Nat -> Option Sh) (q : Nat) (tx : List UInt8) (k : Nat) (hF : ∀ i, i < k -> F (q + i) = none \/ F (q + i) = some (shAt q tx i)) : ∃ j, j <= k /\ (∀ i, i < j -> F (q + i) = some (shAt q tx i)) /\ (j = k \/ F (q + j) = none) := by
 induction k with
 |zero => exact ⟨0, Nat.le_refl _, fun i h => by omega, .inl rfl⟩
 |succ k ih =>
  obtain ⟨j, h1, h2, h3⟩ := ih fun i hi => hF i (by omega)
  rcases h3 with rfl | h3
  ·rcases hF j (by omega) with h | h
   ·exact ⟨j, by omega, h2, .inr h⟩
   ·refine ⟨j + 1, Nat.le_refl _, fun i hi => ?_, .inl rfl⟩
    rcases Nat.lt_or_ge i j with hl | hg
    ·exact h2 i hl
    ·obtain rfl : i = j := by omega
     exact h
  ·exact ⟨j, by omega, h2, .inr h3⟩
theorem run_more (F : Nat -> Option Sh) (f : Nat) (ss m : List Sh) (h1 : ∀ i s, ss[i]? = some s -> F (f + i) = some s) (h2 : ∀ i s, m[i]? = some s -> F (f + ss.length + i) = some s) : ∀ i s, (ss ++ m)[i]? = some s -> F (f + i) = some s := fun i s hi => by
 rcases Nat.lt_or_ge i ss.length with hl | hg
 ·rw [List.getElem?_append_left hl] at hi
  exact h1 i s hi
 ·rw [List.getElem?_append_right hg] at hi
  have := h2 _ _ hi
  rwa [show f + ss.length + (i - ss.length) = f + i by omega] at this
theorem Wi.lost (h : Wi on l ss N) (tx : List UInt8) (hl : need tx.length <= l.left) (hN : N + need tx.length < 18446744073709551616) (on' : List (List UInt8)) (hlen : on'.length = on.length) (hs : Some_ on on' l.h.n l.next tx) :
  Wc on' (parse [] ss) (N + need tx.length) \/ Wc on' (parse [] ss ++ [tx]) (N + need tx.length) := by
 obtain ⟨c1, c2, c3⟩ := h.part tx hl hN on' hlen hs
 have hfew := h.few
 have hnx := h.next
 have hnN := h.o.nextN
 obtain ⟨j, j1, j2, j3⟩ := upto_all (sheetF (onV on') l.h.n) l.next tx (need tx.length) fun i hi => by
  rcases c3 (l.next + i) (by omega) with e | ⟨i', _, e, e2⟩
  ·exact .inl e
  ·obtain rfl : i = i' := by omega
   exact .inr e2
 have hend : sheetF (onV on') l.h.n (l.next + j) = none := by
  rcases j3 with rfl | e
  ·rcases c3 (l.next + need tx.length) (by omega) with e | ⟨i, hi, e, _⟩
   ·exact e
   ·omega
  ·exact e
 have ht : textsF (onV on') l.h.n l.h.f = parse [] (ss ++ (cutL l.next tx).take j) := by
  unfold textsF
  have hlj : ((cutL l.next tx).take j).length = j := by rw [List.length_take, cutL_length]; omega
  rw [runF_of (sheetF (onV on') l.h.n) (ss ++ (cutL l.next tx).take j) (l.h.n + 1) l.h.f (by rw [List.length_append, hlj]; omega) (run_more _ _ _ _ c2 fun i s hi => ?_) (by rw [List.length_append, hlj, <- Nat.add_assoc, hnx]; exact hend)]
  rw [List.getElem?_take] at hi
  split at hi
  ·next hij =>
   rw [cutL_get _ _ _ (by omega)] at hi
   injection hi with hi
   subst hi
   rw [hnx]
   exact j2 i hij
  ·cases hi
 have hb : ∀ q s, sheetF (onV on') l.h.n q = some s -> q < N + need tx.length := fun q s hq => by
  rcases Nat.lt_or_ge q l.next with hlt | hge
  ·omega
  ·rcases c3 q hge with e | ⟨i, hi, e, _⟩
   ·rw [e] at hq; cases hq
   ·omega
 have base : ∀ u, textsF (onV on') l.h.n l.h.f = u -> Wc on' u (N + need tx.length) := fun u hu =>
  ⟨⟨l.h, l.a, by rw [hlen]; exact h.o.len, h.o.hok, c1, by have := h.o.gN; omega, by have := h.o.first; omega, hb, hu⟩⟩
 rw [parse_append, h.rem] at ht
 rcases Nat.lt_or_ge j (need tx.length) with hlt | hge
 ·left
  rw [(rem_part l.next tx j hlt).1, List.append_nil] at ht
  exact base _ ht
 ·right
  rw [List.take_of_length_le (by rw [cutL_length]; exact hge), (rem_whole l.next tx).1] at ht
  exact base _ ht
theorem Wi.done (h : Wi on l ss N) (tx : List UInt8) (hl : need tx.length <= l.left) (hN : N + need tx.length < 18446744073709551616) (on' : List (List UInt8)) (hlen : on'.length = on.length) (hs : Some_ on on' l.h.n l.next tx)
  (ha : ∀ i, i < need tx.length -> onV on' (2 + (l.next + i) % l.h.n) = secL (shAt l.next tx i).q (shAt l.next tx i).last (shAt l.next tx i).t) :
  Wi on' { l with next := (l.next + need tx.length) % 18446744073709551616, left := l.left - need tx.length } (ss ++ cutL l.next tx) (N + need tx.length) := by
 obtain ⟨c1, c2, c3⟩ := h.part tx hl hN on' hlen hs
 have hfew := h.few
 have hnx := h.next
 have hnN := h.o.nextN
 have hfs := h.o.first
 have e : (l.next + need tx.length) % 18446744073709551616 = l.next + need tx.length := Nat.mod_eq_of_lt (by omega)
 rw [e]
 refine ⟨⟨by rw [hlen]; exact h.o.len, h.o.hok, c1, (show l.h.g <= N + need tx.length by have := h.o.gN; omega), ?_, ?_, fun q hq => ?_⟩, run_more _ _ _ _ c2 fun i s hi => ?_, ?_, ?_, ?_, h.alive⟩
 ·show l.h.f <= l.next + need tx.length; omega
 ·show l.next + need tx.length <= _; omega
 ·have hq' : l.next + need tx.length <= q := hq
  rcases c3 q (by omega) with e | ⟨i, hi, e, _⟩
  ·exact e
  ·omega
 ·have hi' := (List.getElem?_eq_some_iff.1 hi).1
  rw [cutL_length] at hi'
  rw [cutL_get _ _ _ hi'] at hi
  injection hi with hi
  subst hi
  show sheetF (onV on') l.h.n (l.h.f + ss.length + i) = _
  rw [hnx]
  unfold sheetF
  rw [ha i hi', take_shAt]
  dsimp only
  rw [shAt_q _ _ _ (by omega), if_pos rfl]
 ·show l.h.f + (ss ++ cutL l.next tx).length = l.next + need tx.length
  rw [List.length_append, cutL_length]; omega
 ·rw [remT_append, h.rem]
  exact (rem_whole _ _).2
 ·show (ss ++ cutL l.next tx).length + (l.left - need tx.length) = l.h.n
  rw [List.length_append, cutL_length]; omega
end
def wrS (n : Nat) (l : List Sh) : List (Nat × List UInt8) := l.map fun s => (2 + s.q % n, secL s.q s.last s.t)
theorem wrS_cut (n q : Nat) (tx : List UInt8) (k : Nat) (hk : k <= need tx.length) (x : Nat × List UInt8) (hx : x ∈ wrS n ((cutL q tx).take k)) (hq : q + need tx.length <= 18446744073709551616) : ∃ i, i < k /\ x = (2 + (q + i) % n, secL (shAt q tx i).q (shAt q tx i).last (shAt q tx i).t) := by
 obtain ⟨s, hs, rfl⟩ := List.mem_map.1 hx
 obtain ⟨i, hi⟩ := List.getElem?_of_mem hs
 rw [List.getElem?_take] at hi
 split at hi
 ·next hik =>
  rw [cutL_get _ _ _ (by omega)] at hi
  injection hi with hi
  subst hi
  exact ⟨i, hik, by rw [shAt_q _ _ _ (by omega)]⟩
 ·cases hi
theorem some_settle (f : Nat -> Bool) (on : List (List UInt8)) (n q : Nat) (tx : List UInt8) (k : Nat) (hk : k <= need tx.length) (hq : q + need tx.length <= 18446744073709551616) (hn : 0 < n) (hl : 2 + n <= on.length) : Some_ on (settleL f on (wrS n ((cutL q tx).take k))) n q tx := fun a => by
 rcases settle_mem f on (wrS n ((cutL q tx).take k)) (fun x hx => by
  obtain ⟨i, _, rfl⟩ := wrS_cut n q tx k hk x hx hq
  have := Nat.mod_lt (q + i) hn
  show 2 + (q + i) % n < on.length
  omega) a with h | ⟨x, hx, h1, h2⟩
 ·exact .inl h
 ·obtain ⟨i, hi, rfl⟩ := wrS_cut n q tx k hk x hx hq
  exact .inr ⟨i, by omega, h1.symm, h2⟩
theorem all_settle (on : List (List UInt8)) (n q : Nat) (tx : List UInt8) (hq : q + need tx.length <= 18446744073709551616) (hn : 0 < n) (hl : 2 + n <= on.length) (hle : need tx.length <= n) (i : Nat) (hi : i < need tx.length) :
  onV (settleL (fun _ => true) on (wrS n (cutL q tx))) (2 + (q + i) % n) = secL (shAt q tx i).q (shAt q tx i).last (shAt q tx i).t := by
 have key : ∀ k, k <= need tx.length -> i < k -> lastB on (wrS n ((cutL q tx).take k)) (2 + (q + i) % n) = secL (shAt q tx i).q (shAt q tx i).last (shAt q tx i).t := by
  intro k
  induction k with
  |zero => intro _ h; omega
  |succ k ih =>
   intro hk hik
   have e : wrS n ((cutL q tx).take (k + 1)) = wrS n ((cutL q tx).take k) ++ [(2 + (shAt q tx k).q % n, secL (shAt q tx k).q (shAt q tx k).last (shAt q tx k).t)] := by
    rw [cutL_take q tx k (by omega)]; simp [wrS]
   rw [e, lastB_snoc]
   have e2 : (shAt q tx k).q = q + k := shAt_q _ _ _ (by omega)
   dsimp only
   rcases Nat.lt_or_ge i k with hl | hg
   ·rw [if_neg (by rw [e2]; have := mod_apart (n := n) (show q + i < q + k by omega) (by omega); omega)]
    exact ih (by omega) hl
   ·obtain rfl : i = k := by omega
    rw [if_pos (by rw [e2])]
 have := key (need tx.length) (Nat.le_refl _) hi
 rw [List.take_of_length_le (by rw [cutL_length]; exact Nat.le_refl _)] at this
 rw [<- this]
 have hm := Nat.mod_lt (q + i) hn
 refine settle_all_get on _ (fun x hx => ?_) _ (by omega)
 have hx' : x ∈ wrS n ((cutL q tx).take (need tx.length)) := by rwa [List.take_of_length_le (by rw [cutL_length]; exact Nat.le_refl _)]
 obtain ⟨i', _, rfl⟩ := wrS_cut n q tx _ (Nat.le_refl _) x hx' hq
 have := Nat.mod_lt (q + i') hn
 show 2 + (q + i') % n < on.length
 omega
structure Up (d : Dm) : Prop where
 power : d.power = true
 wait : d.wait = []
structure Off (d : Dm) : Prop where
 power : d.power = false
 wait : d.wait = []
 lit : d.lit = false
theorem Up.now {d : Dm} (h : d.wait = []) : d.nowAt = onV d.on := by
 funext a
 show lastB d.on d.wait a = _
 rw [h]
 rfl
theorem lose_off (d : Dm) (k : List UInt8) : Off (d.lose k) := ⟨rfl, rfl, rfl⟩
theorem putAll_out (n : Nat) (hn : 0 < n) : ∀ (ss : List Sh) (d : Dm), d.power = true -> (∀ s ∈ ss, s.t.length <= 497) -> 2 + n <= d.on.length ->
  ((Dm.putAll n ss d).2 = 0 /\ (Dm.putAll n ss d).1.on = settleL (fun _ => true) d.on (d.wait ++ wrS n ss) /\ Up (Dm.putAll n ss d).1) \/
  ((Dm.putAll n ss d).2 = 4 /\ (∃ k f, k <= ss.length /\ (Dm.putAll n ss d).1.on = settleL f d.on (d.wait ++ wrS n (ss.take k))) /\ Off (Dm.putAll n ss d).1)
 |[], d, hp, _, _ => by
  have e : Dm.putAll n [] d = if d.out then (d.lose d.keep, 4) else (d.act.all, 0) := by simp [Dm.putAll, Dm.flushS, hp]
  rw [e]
  rcases ho : d.out with _ | _
  ·left
   refine ⟨rfl, ?_, ⟨hp, rfl⟩⟩
   simp [wrS, Dm.all, Dm.act]
  ·right
   exact ⟨rfl, ⟨0, bitOf d.keep, Nat.le_refl _, by simp [wrS, Dm.lose]⟩, lose_off _ _⟩
 |s :: r, d, hp, hl, hlen => by
  have hm := Nat.mod_lt s.q hn
  have hs : secB d ((2 + s.q % n : Nat) : Int) = true := by simp [secB]; omega
  have h5 : (secL s.q s.last s.t).length = 512 := secL_length _ _ _ (hl s (by simp))
  rcases ho : d.out with _ | _
  ·have e : d.writeS ((2 + s.q % n : Nat) : Int) (secL s.q s.last s.t) = (d.act.push (2 + s.q % n) (secL s.q s.last s.t), 0) := by
    simp only [Dm.writeS, hp, hs, h5, ho]
    rfl
   have e2 : Dm.putAll n (s :: r) d = Dm.putAll n r (d.act.push (2 + s.q % n) (secL s.q s.last s.t)) := by
    simp only [Dm.putAll]
    rw [e]
    rfl
   rw [e2]
   have ih := putAll_out n hn r (d.act.push (2 + s.q % n) (secL s.q s.last s.t)) hp (fun x hx => hl x (by simp [hx])) hlen
   have ew : ∀ m, (d.act.push (2 + s.q % n) (secL s.q s.last s.t)).wait ++ wrS n m = d.wait ++ wrS n (s :: m) := fun m => by simp [Dm.push, Dm.act, wrS]
   have eo : (d.act.push (2 + s.q % n) (secL s.q s.last s.t)).on = d.on := rfl
   rcases ih with ⟨h1, h2, h3⟩ | ⟨h1, ⟨k, f, h2, h3⟩, h4⟩
   ·left
    exact ⟨h1, by rw [h2, ew, eo], h3⟩
   ·right
    exact ⟨h1, ⟨k + 1, f, by simp; omega, by rw [h3, ew, eo]; rfl⟩, h4⟩
  ·right
   have e : d.writeS ((2 + s.q % n : Nat) : Int) (secL s.q s.last s.t) = (d.lose d.keep, 4) := by
    simp only [Dm.writeS, hp, hs, h5, ho]
    rfl
   have e2 : Dm.putAll n (s :: r) d = (d.lose d.keep, 4) := by
    simp only [Dm.putAll]
    rw [e]
    rfl
   rw [e2]
   exact ⟨rfl, ⟨0, bitOf d.keep, Nat.zero_le _, by simp [wrS, Dm.lose]⟩, lose_off _ _⟩
theorem putHead_out (d : Dm) (hu : Up d) (a : Nat) (h : Hd) (ha : a < d.on.length) (hl : h.note.length <= 64) :
  ((d.putHead a h).2 = 0 /\ (d.putHead a h).1.on = d.on.set a (hsec h) /\ Up (d.putHead a h).1) \/
  ((d.putHead a h).2 = 4 /\ ((d.putHead a h).1.on = d.on.set a (hsec h) \/ (d.putHead a h).1.on = d.on) /\ Off (d.putHead a h).1) := by
 have hp := hu.power
 have hw := hu.wait
 have hs : secB d (a : Int) = true := by simp [secB]; omega
 have h5 := hsec_length h hl
 rcases ho : d.out with _ | _
 ·have e : d.writeS (a : Int) (hsec h) = (d.act.push a (hsec h), 0) := by
   simp only [Dm.writeS, hp, hs, h5, ho]
   rfl
  have e2 : d.putHead a h = (d.act.push a (hsec h)).flushS := by simp [Dm.putHead, e]
  have ew : (d.act.push a (hsec h)).wait = [(a, hsec h)] := by simp [Dm.push, Dm.act, hw]
  rw [e2]
  have e3 : (d.act.push a (hsec h)).flushS = if (d.act.push a (hsec h)).out then ((d.act.push a (hsec h)).lose (d.act.push a (hsec h)).keep, 4) else ((d.act.push a (hsec h)).act.all, 0) := by
   have : (d.act.push a (hsec h)).power = true := hp
   simp [Dm.flushS, this]
  have eset : ∀ f : Nat -> Bool, settleL f d.on [(a, hsec h)] = if f 0 then d.on.set a (hsec h) else d.on := fun f => rfl
  rw [e3]
  split
  ·right
   refine ⟨rfl, ?_, lose_off _ _⟩
   show settleL (bitOf _) d.on (d.act.push a (hsec h)).wait = _ \/ settleL (bitOf _) d.on (d.act.push a (hsec h)).wait = _
   rw [ew, eset]
   split
   ·exact .inl rfl
   ·exact .inr rfl
  ·left
   refine ⟨rfl, ?_, ⟨hp, rfl⟩⟩
   show settleL (fun _ => true) d.on (d.act.push a (hsec h)).wait = _
   rw [ew, eset]
   rfl
 ·right
  have e : d.writeS (a : Int) (hsec h) = (d.lose d.keep, 4) := by
   simp only [Dm.writeS, hp, hs, h5, ho]
   rfl
  have e2 : d.putHead a h = (d.lose d.keep, 4) := by simp [Dm.putHead, e]
  rw [e2]
  refine ⟨rfl, .inr ?_, lose_off _ _⟩
  show settleL (bitOf d.keep) d.on d.wait = d.on
  rw [hw]
  rfl
theorem putHead_unlit (d : Dm) (hu : Up d) (hlit : d.lit = false) (a : Nat) (h : Hd) (ha : a < d.on.length) (hl : h.note.length <= 64) : (d.putHead a h).2 = 0 /\ (d.putHead a h).1.lit = false := by
 have hp := hu.power
 have hs : secB d (a : Int) = true := by simp [secB]; omega
 have h5 := hsec_length h hl
 have ho : d.out = false := by simp [Dm.out, hlit]
 have e : d.writeS (a : Int) (hsec h) = (d.act.push a (hsec h), 0) := by
  simp only [Dm.writeS, hp, hs, h5, ho]
  rfl
 have e2 : d.putHead a h = (d.act.push a (hsec h)).flushS := by simp [Dm.putHead, e]
 have h1 : (d.act.push a (hsec h)).power = true := hp
 have h2 : (d.act.push a (hsec h)).out = false := by simp [Dm.out, Dm.push, Dm.act, hlit]
 rw [e2]
 simp only [Dm.flushS, h1, h2]
 exact ⟨rfl, hlit⟩
section
variable {d : Dm} {l : Lm} {ss : List Sh} {N : Nat}
theorem onV_set (on : List (List UInt8)) (a : Nat) (s : List UInt8) (ha : a < on.length) : onV (on.set a s) a = s /\ ∀ k, k ≠ a -> onV (on.set a s) k = onV on k :=
 ⟨getD_set_same _ _ _ _ ha, fun _k hk => getD_set_other _ _ _ _ _ (fun e => hk e.symm)⟩
theorem trim_out (h : Wo d.on l N) (hN : N + 1 < 18446744073709551616) (hd : l.dead = false) (hu : Up d) :
  ((l.trimS d).2.2 = 0 /\ Wi (l.trimS d).2.1.on (l.trimS d).1 [] (N + 1) /\ Up (l.trimS d).2.1) \/
  ((l.trimS d).2.2 = 4 /\ (Wc (l.trimS d).2.1.on (textsF (onV d.on) l.h.n l.h.f) (N + 1) \/ Wc (l.trimS d).2.1.on [] (N + 1)) /\ Off (l.trimS d).2.1) := by
 have hlo := h.hok.lo
 have ha : 1 - l.a < d.on.length := by have := h.len; omega
 have e : l.trimS d = if (d.putHead (1 - l.a) l.newHead).2 = 0 then ({ l with h := l.newHead, a := 1 - l.a, left := l.h.n }, (d.putHead (1 - l.a) l.newHead).1, 0) else ({ l with dead := (d.putHead (1 - l.a) l.newHead).2 == 4 }, (d.putHead (1 - l.a) l.newHead).1, (d.putHead (1 - l.a) l.newHead).2) := by
  simp [Lm.trimS, hd]
 rw [e]
 have hset := onV_set d.on (1 - l.a) (hsec l.newHead) ha
 have hW := h.trimmed hN (d.on.set (1 - l.a) (hsec l.newHead)) (by simp) hset.1 hset.2 hd
 rcases putHead_out d hu (1 - l.a) l.newHead ha h.hok.note_ with ⟨h1, h2, h3⟩ | ⟨h1, h2, h3⟩
 ·left
  rw [if_pos h1]
  refine ⟨rfl, ?_, h3⟩
  show Wi (d.putHead (1 - l.a) l.newHead).1.on _ _ _
  rw [h2]
  exact hW
 ·right
  rw [if_neg (by rw [h1]; decide)]
  refine ⟨h1, ?_, h3⟩
  show Wc (d.putHead (1 - l.a) l.newHead).1.on _ _ \/ Wc (d.putHead (1 - l.a) l.newHead).1.on _ _
  rcases h2 with h2 | h2
  ·rw [h2]
   exact .inr hW.cut
  ·rw [h2]
   exact .inl (h.cut.mono (by omega))
theorem shLe (q : Nat) (tx : List UInt8) : ∀ s ∈ cutL q tx, s.t.length <= 497 := fun s hs => by
 simp only [cutL, List.mem_map] at hs
 obtain ⟨i, _, rfl⟩ := hs
 exact shAt_le _ _ _
theorem commit_out (h : Wi d.on l ss N) (tx : List UInt8) (hN : N + 512 < 18446744073709551616) (hu : Up d) :
  ((l.commitS d tx).2.2 = 0 /\ (∃ ss', Wi (l.commitS d tx).2.1.on (l.commitS d tx).1 ss' (N + 512) /\ parse [] ss' = parse [] ss ++ [tx]) /\ Up (l.commitS d tx).2.1) \/
  (((l.commitS d tx).2.2 = 5 \/ (l.commitS d tx).2.2 = 6) /\ l.commitS d tx = (l, d, (l.commitS d tx).2.2)) \/
  ((l.commitS d tx).2.2 = 4 /\ (Wc (l.commitS d tx).2.1.on (parse [] ss) (N + 512) \/ Wc (l.commitS d tx).2.1.on (parse [] ss ++ [tx]) (N + 512)) /\ Off (l.commitS d tx).2.1) := by
 have hd := h.alive
 have hn : 0 < l.h.n := by have := h.o.hok.lo; omega
 have hhi := h.o.hok.hi
 have hnN := h.o.nextN
 have hfew := h.few
 by_cases h1 : l.h.n < need tx.length
 ·right; left
  have e : l.commitS d tx = (l, d, 6) := by simp [Lm.commitS, hd, h1]
  rw [e]
  exact ⟨.inr rfl, rfl⟩
 by_cases h2 : l.left < need tx.length
 ·right; left
  have e : l.commitS d tx = (l, d, 5) := by simp [Lm.commitS, hd, h1, h2]
  rw [e]
  exact ⟨.inl rfl, rfl⟩
 have hle : need tx.length <= l.left := by omega
 have e : l.commitS d tx = if (Dm.putAll l.h.n (cutL l.next tx) d).2 = 0 then ({ l with next := (l.next + need tx.length) % 18446744073709551616, left := l.left - need tx.length }, (Dm.putAll l.h.n (cutL l.next tx) d).1, 0) else ({ l with dead := (Dm.putAll l.h.n (cutL l.next tx) d).2 == 4 }, (Dm.putAll l.h.n (cutL l.next tx) d).1, (Dm.putAll l.h.n (cutL l.next tx) d).2) := by
  simp [Lm.commitS, hd, h1, h2]
 rw [e]
 have hw0 : ∀ m, d.wait ++ wrS l.h.n m = wrS l.h.n m := fun m => by rw [hu.wait, List.nil_append]
 have hq : l.next + need tx.length <= 18446744073709551616 := by omega
 rcases putAll_out l.h.n hn (cutL l.next tx) d hu.power (shLe _ _) h.o.len with ⟨g1, g2, g3⟩ | ⟨g1, ⟨k, f, g2, g3⟩, g4⟩
 ·left
  rw [if_pos g1]
  rw [hw0] at g2
  have hs := some_settle (fun _ => true) d.on l.h.n l.next tx (need tx.length) (Nat.le_refl _) hq hn h.o.len
  rw [List.take_of_length_le (by rw [cutL_length]; exact Nat.le_refl _)] at hs
  have hwi := h.done tx hle (by omega) _ (settleL_length _ _ _) hs (all_settle d.on l.h.n l.next tx hq hn h.o.len (by omega))
  refine ⟨rfl, ⟨ss ++ cutL l.next tx, ?_, ?_⟩, g3⟩
  ·show Wi (Dm.putAll l.h.n (cutL l.next tx) d).1.on _ _ _
   rw [g2]
   exact hwi.mono (by omega)
  ·rw [parse_append, h.rem, (rem_whole _ _).1]
 ·right; right
  rw [if_neg (by rw [g1]; decide)]
  rw [hw0] at g3
  have hs := some_settle f d.on l.h.n l.next tx k (by rwa [cutL_length] at g2) hq hn h.o.len
  refine ⟨g1, ?_, g4⟩
  show Wc (Dm.putAll l.h.n (cutL l.next tx) d).1.on _ _ \/ Wc (Dm.putAll l.h.n (cutL l.next tx) d).1.on _ _
  rw [g3]
  rcases h.lost tx hle (by omega) _ (settleL_length _ _ _) hs with x | x
  ·exact .inl (x.mono (by omega))
  ·exact .inr (x.mono (by omega))
theorem open_out {u : List (List UInt8)} (h : Wc d.on u N) (hN : N < 18446744073709551616) (hu : Up d) : ∃ l, d.openS = (some (l, u), 0) /\ Wo d.on l N /\ l.dead = false /\ l.left = 0 /\ textsF (onV d.on) l.h.n l.h.f = u := by
 obtain ⟨hd, a, h1, h2, h3, h4, h5, h6, h7⟩ := h.out
 have hn : 0 < hd.n := by have := h2.lo; omega
 obtain ⟨n1, n2, n3⟩ := nextF_small (V := onV d.on) hn h5 hN h6
 refine ⟨⟨hd, a, nextF (onV d.on) hd.n hd.f, 0, false⟩, ?_, ⟨h1, h2, h3, h4, n1, n2, n3⟩, rfl, rfl, h7⟩
 have e : d.heads = some (hd, a) := by unfold Dm.heads; rw [Up.now hu.wait]; exact h3
 simp [Dm.openS, hu.power, e, h1, Up.now hu.wait, h7]
end
def zsec0 : List UInt8 := List.replicate 512 0
theorem headS_zero : headS zsec0 = none := by
 unfold headS
 rw [if_neg]
 rintro ⟨_, h, _⟩
 revert h
 decide
theorem takeS_zero : takeS zsec0 = none := takeS_kind (by decide) (by decide)
theorem fresh_heads (n : Nat) : countS (headS (onV (List.replicate n zsec0) 0)) (headS (onV (List.replicate n zsec0) 1)) = none := by
 have h : ∀ a, headS (onV (List.replicate n zsec0) a) = none := fun a => by
  unfold onV
  rcases Nat.lt_or_ge a n with hl | hg
  ·simp [List.getD, hl, headS_zero]
  ·simp [List.getD, Nat.not_lt.2 hg, headS_nil]
 rw [h, h]
 rfl
theorem fresh_sheet (n m q : Nat) : sheetF (onV (List.replicate n zsec0)) m q = none := by
 have h : takeS (onV (List.replicate n zsec0) (2 + q % m)) = none := by
  unfold onV
  rcases Nat.lt_or_ge (2 + q % m) n with hl | hg
  ·simp [List.getD, hl, takeS_zero]
  ·have : takeS ([] : List UInt8) = none := by unfold takeS; rw [if_neg (by simp)]
   simp [List.getD, Nat.not_lt.2 hg, this]
 unfold sheetF
 rw [h]
end Go.Proofs.YtepaeliamhjgiaaGreatDoor
