/- A packer's calls in every state: one that failed, and no packer at all, stay as they are. At most 2^47 bytes in all. -/
import Derived.Test.YtcgfnfejacgaeaaDoorPkr
import Derived.Test.YtcgfnfejacgaeaaDoorOCalls
namespace Go.Proofs.YtcgfnfejacgaeaaDoor
open Go.RowKit

/-- A packer, or none: none is as one that failed with ErrNil. -/
def Pk (F : Nat → Prop) (w : World) (p : Value) (l : List UInt8) (err : Int) : Prop :=
  (err ≠ 0 → l = []) ∧ ((p = .pointer none ∧ err = 1) ∨ ∃ b, p = .pointer (some ⟨b, 0, none⟩) ∧ Pkr F w b l err)

theorem Pk.kp {F S : Nat → Prop} {w w' : World} {p : Value} {l : List UInt8} {err : Int} (h : Pk F w p l err) (hk : Kp S w w') (hs : ∀ k, F k → ¬ S k) : Pk F w' p l err := by
  obtain ⟨h0, h | ⟨b, e, h⟩⟩ := h
  · exact ⟨h0, .inl h⟩
  · exact ⟨h0, .inr ⟨b, e, h.kp hk hs⟩⟩
theorem Pk.still {F : Nat → Prop} {w w' : World} {p : Value} {l : List UInt8} {err : Int} (h : Pk F w p l err) (hk : Kp (fun _ => False) w w') : Pk F w' p l err := h.kp hk fun _ _ h => h
theorem Pk.kp_box {F : Nat → Prop} {w w' : World} {p : Value} {g : Nat} {l : List UInt8} {err : Int} {t : TypeId} {cs : Array Value} (h : Pk F w p l err) (hk : Kp (fun k => k = g) w w') (hg : Box w g t cs) (h1 : 86 ≠ t) (h2 : 5 ≠ t) : Pk F w' p l err := by
  obtain ⟨h0, h | ⟨b, e, h⟩⟩ := h
  · exact ⟨h0, .inl h⟩
  · exact ⟨h0, .inr ⟨b, e, h.kp_box hk hg h1 h2⟩⟩

/-- What a put leaves: of a packer that failed nothing new. -/
def putS (l : List UInt8) (err : Int) (s : List UInt8) : List UInt8 := if err = 0 then l ++ s else l
/-- What a failure leaves. -/
def errS (err e1 : Int) : Int := if err = 0 then e1 else err

section
variable {F : Nat → Prop} {w : World} {p : Value} {l : List UInt8} {err : Int}

theorem add_any (h : Pk F w p l err) (hF : ∀ k, w.heap.size ≤ k → F k) (s : List UInt8) (A : Option Addr) (n c : Nat) (hn : s.length = n) (hr : Rd w A s) (hlen : l.length + s.length ≤ 140737488355328) :
    Calls Tryd.prog 39 #[p, .slice A n c] w fun e w' => e = .returned p ∧ Pk F w' p (putS l err s) err ∧ Kp F w w' := by
  by_cases he : err = 0
  · subst he
    obtain ⟨h0, ⟨_, h1⟩ | ⟨b, rfl, h⟩⟩ := h
    · cases h1
    · refine (add_fine h hF s A n c hn hr hlen).mono ?_
      rintro e w' ⟨rfl, h2, h3⟩
      exact ⟨rfl, ⟨fun h => absurd rfl h, .inr ⟨b, rfl, by simpa [putS] using h2⟩⟩, h3⟩
  · have hp : putS l err s = l := by simp [putS, he]
    rw [hp]
    obtain ⟨h0, ⟨rfl, h1⟩ | ⟨b, rfl, h⟩⟩ := h
    · refine (add_nil _ w).mono ?_
      rintro e w' ⟨rfl, rfl⟩
      exact ⟨rfl, ⟨h0, .inl ⟨rfl, h1⟩⟩, Kp.refl _ _⟩
    · refine (add_failed h he _).mono ?_
      rintro e w' ⟨rfl, rfl⟩
      exact ⟨rfl, ⟨h0, .inr ⟨b, rfl, h⟩⟩, Kp.refl _ _⟩

theorem fail_any (h : Pk F w p l err) (e1 : Int) :
    Calls Tryd.prog 40 #[p, .int .i64 e1] w fun e w' => e = .returned p ∧ Pk F w' p [] (errS err e1) ∧ Kp F w w' := by
  by_cases he : err = 0
  · subst he
    obtain ⟨h0, ⟨_, h1⟩ | ⟨b, rfl, h⟩⟩ := h
    · cases h1
    · refine (fail_fine h e1).mono ?_
      rintro e w' ⟨rfl, h2, h3⟩
      exact ⟨rfl, ⟨fun _ => rfl, .inr ⟨b, rfl, by simpa [errS] using h2⟩⟩, h3⟩
  · have hp : errS err e1 = err := by simp [errS, he]
    rw [hp]
    obtain ⟨h0, ⟨rfl, h1⟩ | ⟨b, rfl, h⟩⟩ := h
    · refine (fail_nil _ w).mono ?_
      rintro e w' ⟨rfl, rfl⟩
      exact ⟨rfl, ⟨fun _ => rfl, .inl ⟨rfl, h1⟩⟩, Kp.refl _ _⟩
    · have hl := h0 he
      subst hl
      refine (fail_failed h he _).mono ?_
      rintro e w' ⟨rfl, rfl⟩
      exact ⟨rfl, ⟨fun _ => rfl, .inr ⟨b, rfl, h⟩⟩, Kp.refl _ _⟩

set_option maxHeartbeats 400000 in
theorem put_odd (h : Pk F w p l err) (width n : Int) (hw : wdB width = false) :
    Calls Tryd.prog 26 #[p, .int .i64 width, .int .u64 n] w fun e w' => e = .returned p ∧ Pk F w' p [] (errS err 6) ∧ Kp F w w' := by
  have H := Lib.hid h
  clear h
  go_enter Tryd.func26, Tryd.ntmps26
  go_wp2_with fail
  refine (isWidth_any _ _).mono ?_
  rintro e w1 ⟨rfl, rfl⟩
  go_wp2_with fail
  refine (fail_any H.out 6).mono ?_
  rintro e w1 ⟨rfl, h1, h2⟩
  have H1 := Lib.hid h1
  have H2 := Lib.hid h2
  clear h1 h2
  go_wp2_with fail
  go_ret
  exact ⟨rfl, H1.out, H2.out⟩

set_option maxHeartbeats 400000 in
theorem put_big1 (h : Pk F w p l err) (n : Nat) (hn : 256 ≤ n) :
    Calls Tryd.prog 26 #[p, .int .i64 1, .int .u64 n] w fun e w' => e = .returned p ∧ Pk F w' p [] (errS err 6) ∧ Kp F w w' := by
  have H := Lib.hid h
  clear h
  have hsh : ((n : Int) / 256 != 0) = true := by simp; omega
  go_enter Tryd.func26, Tryd.ntmps26
  go_wp2_with fail
  refine (isWidth_any _ _).mono ?_
  rintro e w1 ⟨rfl, rfl⟩
  have hwd : wdB 1 = true := rfl
  go_wp2_with fail
  refine (fail_any H.out 6).mono ?_
  rintro e w1 ⟨rfl, h1, h2⟩
  have H1 := Lib.hid h1
  have H2 := Lib.hid h2
  clear h1 h2
  go_wp2_with fail
  go_ret
  exact ⟨rfl, H1.out, H2.out⟩

theorem beN_rd1 (w : World) (n : Nat) (cs : Array Value) (t : TypeId) (g : Nat) (hg : w.heap[g]? = some (.cells cs t (0, 0))) (hs : ∀ i, i < 1 → cs[7 + i]? = some (.int .u8 ((n / 256 ^ (0 - i) % 256 : Nat) : Int))) : Rd w (some ⟨g, 7, none⟩) (beN 1 n) := by
  refine .inr ⟨g, 7, rfl, fun j u hu => ?_⟩
  rw [cell_of_row w g (7 + j) cs t (0, 0) hg]
  have hj : j < 1 := by
    have := (List.getElem?_eq_some_iff.1 hu).1
    rwa [beN_length] at this
  rw [hs j hj]
  rw [beN_get 1 n j hj] at hu
  cases hu
  simp

set_option maxHeartbeats 1000000 in
theorem put_fine1 (h : Pk F w p l err) (hF : ∀ k, w.heap.size ≤ k → F k) (n : Nat) (hn : n < 256) (hlen : l.length + 1 ≤ 140737488355328) :
    Calls Tryd.prog 26 #[p, .int .i64 1, .int .u64 n] w fun e w' => e = .returned p ∧ Pk F w' p (putS l err (beN 1 n)) err ∧ Kp F w w' := by
  have H := Lib.hid h
  have HF := Lib.hid hF
  clear h hF
  have hsh : ((n : Int) / 256 != 0) = false := by simp; omega
  go_enter Tryd.func26, Tryd.ntmps26
  go_wp2_with fail
  refine (isWidth_any _ _).mono ?_
  rintro e w1 ⟨rfl, rfl⟩
  have hwd : wdB 1 = true := rfl
  go_wp2_with fail
  refine wp_loop_rounds 9 ?_
  iterate 9
    rw [rounds_succ]
    go_wp2_with fail
  refine (add_any (H.out.still ((Kp.refl _ w).alloc _)) (fun k hk => HF.out k (by simp at hk; omega)) (beN 1 n) _ 1 1 (beN_length _ _) (beN_rd1 _ n _ 89 w.heap.size (Box.new w _ _) ?cells) (by rw [beN_length]; exact hlen)).mono ?_
  case cells =>
    intro i hi
    obtain rfl := (by omega : i = 0)
    all_goals simp only [Nat.reduceAdd, Nat.reduceSub, Nat.reducePow, List.getElem?_toArray, List.getElem?_cons_succ, List.getElem?_cons_zero, Option.some.injEq, Value.int.injEq, true_and, Nat.div_one]
    all_goals omega
  rintro e w1 ⟨rfl, h1, h2⟩
  have H1 := Lib.hid h1
  have H2 := Lib.hid h2
  clear h1 h2
  go_wp2_with fail
  go_ret
  exact ⟨rfl, H1.out, ((Kp.refl F w).alloc _).trans H2.out⟩

set_option maxHeartbeats 400000 in
theorem put_big2 (h : Pk F w p l err) (n : Nat) (hn : 65536 ≤ n) :
    Calls Tryd.prog 26 #[p, .int .i64 2, .int .u64 n] w fun e w' => e = .returned p ∧ Pk F w' p [] (errS err 6) ∧ Kp F w w' := by
  have H := Lib.hid h
  clear h
  have hsh : ((n : Int) / 65536 != 0) = true := by simp; omega
  go_enter Tryd.func26, Tryd.ntmps26
  go_wp2_with fail
  refine (isWidth_any _ _).mono ?_
  rintro e w1 ⟨rfl, rfl⟩
  have hwd : wdB 2 = true := rfl
  go_wp2_with fail
  refine (fail_any H.out 6).mono ?_
  rintro e w1 ⟨rfl, h1, h2⟩
  have H1 := Lib.hid h1
  have H2 := Lib.hid h2
  clear h1 h2
  go_wp2_with fail
  go_ret
  exact ⟨rfl, H1.out, H2.out⟩

theorem beN_rd2 (w : World) (n : Nat) (cs : Array Value) (t : TypeId) (g : Nat) (hg : w.heap[g]? = some (.cells cs t (0, 0))) (hs : ∀ i, i < 2 → cs[6 + i]? = some (.int .u8 ((n / 256 ^ (1 - i) % 256 : Nat) : Int))) : Rd w (some ⟨g, 6, none⟩) (beN 2 n) := by
  refine .inr ⟨g, 6, rfl, fun j u hu => ?_⟩
  rw [cell_of_row w g (6 + j) cs t (0, 0) hg]
  have hj : j < 2 := by
    have := (List.getElem?_eq_some_iff.1 hu).1
    rwa [beN_length] at this
  rw [hs j hj]
  rw [beN_get 2 n j hj] at hu
  cases hu
  simp

set_option maxHeartbeats 1000000 in
theorem put_fine2 (h : Pk F w p l err) (hF : ∀ k, w.heap.size ≤ k → F k) (n : Nat) (hn : n < 65536) (hlen : l.length + 2 ≤ 140737488355328) :
    Calls Tryd.prog 26 #[p, .int .i64 2, .int .u64 n] w fun e w' => e = .returned p ∧ Pk F w' p (putS l err (beN 2 n)) err ∧ Kp F w w' := by
  have H := Lib.hid h
  have HF := Lib.hid hF
  clear h hF
  have hsh : ((n : Int) / 65536 != 0) = false := by simp; omega
  go_enter Tryd.func26, Tryd.ntmps26
  go_wp2_with fail
  refine (isWidth_any _ _).mono ?_
  rintro e w1 ⟨rfl, rfl⟩
  have hwd : wdB 2 = true := rfl
  go_wp2_with fail
  refine wp_loop_rounds 9 ?_
  iterate 9
    rw [rounds_succ]
    go_wp2_with fail
  refine (add_any (H.out.still ((Kp.refl _ w).alloc _)) (fun k hk => HF.out k (by simp at hk; omega)) (beN 2 n) _ 2 2 (beN_length _ _) (beN_rd2 _ n _ 89 w.heap.size (Box.new w _ _) ?cells) (by rw [beN_length]; exact hlen)).mono ?_
  case cells =>
    intro i hi
    obtain rfl | rfl := (by omega : i = 0 ∨ i = 1)
    all_goals simp only [Nat.reduceAdd, Nat.reduceSub, Nat.reducePow, List.getElem?_toArray, List.getElem?_cons_succ, List.getElem?_cons_zero, Option.some.injEq, Value.int.injEq, true_and, Nat.div_one]
    all_goals omega
  rintro e w1 ⟨rfl, h1, h2⟩
  have H1 := Lib.hid h1
  have H2 := Lib.hid h2
  clear h1 h2
  go_wp2_with fail
  go_ret
  exact ⟨rfl, H1.out, ((Kp.refl F w).alloc _).trans H2.out⟩

set_option maxHeartbeats 400000 in
theorem put_big4 (h : Pk F w p l err) (n : Nat) (hn : 4294967296 ≤ n) :
    Calls Tryd.prog 26 #[p, .int .i64 4, .int .u64 n] w fun e w' => e = .returned p ∧ Pk F w' p [] (errS err 6) ∧ Kp F w w' := by
  have H := Lib.hid h
  clear h
  have hsh : ((n : Int) / 4294967296 != 0) = true := by simp; omega
  go_enter Tryd.func26, Tryd.ntmps26
  go_wp2_with fail
  refine (isWidth_any _ _).mono ?_
  rintro e w1 ⟨rfl, rfl⟩
  have hwd : wdB 4 = true := rfl
  go_wp2_with fail
  refine (fail_any H.out 6).mono ?_
  rintro e w1 ⟨rfl, h1, h2⟩
  have H1 := Lib.hid h1
  have H2 := Lib.hid h2
  clear h1 h2
  go_wp2_with fail
  go_ret
  exact ⟨rfl, H1.out, H2.out⟩

theorem beN_rd4 (w : World) (n : Nat) (cs : Array Value) (t : TypeId) (g : Nat) (hg : w.heap[g]? = some (.cells cs t (0, 0))) (hs : ∀ i, i < 4 → cs[4 + i]? = some (.int .u8 ((n / 256 ^ (3 - i) % 256 : Nat) : Int))) : Rd w (some ⟨g, 4, none⟩) (beN 4 n) := by
  refine .inr ⟨g, 4, rfl, fun j u hu => ?_⟩
  rw [cell_of_row w g (4 + j) cs t (0, 0) hg]
  have hj : j < 4 := by
    have := (List.getElem?_eq_some_iff.1 hu).1
    rwa [beN_length] at this
  rw [hs j hj]
  rw [beN_get 4 n j hj] at hu
  cases hu
  simp

set_option maxHeartbeats 1000000 in
theorem put_fine4 (h : Pk F w p l err) (hF : ∀ k, w.heap.size ≤ k → F k) (n : Nat) (hn : n < 4294967296) (hlen : l.length + 4 ≤ 140737488355328) :
    Calls Tryd.prog 26 #[p, .int .i64 4, .int .u64 n] w fun e w' => e = .returned p ∧ Pk F w' p (putS l err (beN 4 n)) err ∧ Kp F w w' := by
  have H := Lib.hid h
  have HF := Lib.hid hF
  clear h hF
  have hsh : ((n : Int) / 4294967296 != 0) = false := by simp; omega
  go_enter Tryd.func26, Tryd.ntmps26
  go_wp2_with fail
  refine (isWidth_any _ _).mono ?_
  rintro e w1 ⟨rfl, rfl⟩
  have hwd : wdB 4 = true := rfl
  go_wp2_with fail
  refine wp_loop_rounds 9 ?_
  iterate 9
    rw [rounds_succ]
    go_wp2_with fail
  refine (add_any (H.out.still ((Kp.refl _ w).alloc _)) (fun k hk => HF.out k (by simp at hk; omega)) (beN 4 n) _ 4 4 (beN_length _ _) (beN_rd4 _ n _ 89 w.heap.size (Box.new w _ _) ?cells) (by rw [beN_length]; exact hlen)).mono ?_
  case cells =>
    intro i hi
    obtain rfl | rfl | rfl | rfl := (by omega : i = 0 ∨ i = 1 ∨ i = 2 ∨ i = 3)
    all_goals simp only [Nat.reduceAdd, Nat.reduceSub, Nat.reducePow, List.getElem?_toArray, List.getElem?_cons_succ, List.getElem?_cons_zero, Option.some.injEq, Value.int.injEq, true_and, Nat.div_one]
    all_goals omega
  rintro e w1 ⟨rfl, h1, h2⟩
  have H1 := Lib.hid h1
  have H2 := Lib.hid h2
  clear h1 h2
  go_wp2_with fail
  go_ret
  exact ⟨rfl, H1.out, ((Kp.refl F w).alloc _).trans H2.out⟩

theorem beN_rd8 (w : World) (n : Nat) (cs : Array Value) (t : TypeId) (g : Nat) (hg : w.heap[g]? = some (.cells cs t (0, 0))) (hs : ∀ i, i < 8 → cs[0 + i]? = some (.int .u8 ((n / 256 ^ (7 - i) % 256 : Nat) : Int))) : Rd w (some ⟨g, 0, none⟩) (beN 8 n) := by
  refine .inr ⟨g, 0, rfl, fun j u hu => ?_⟩
  rw [cell_of_row w g (0 + j) cs t (0, 0) hg]
  have hj : j < 8 := by
    have := (List.getElem?_eq_some_iff.1 hu).1
    rwa [beN_length] at this
  rw [hs j hj]
  rw [beN_get 8 n j hj] at hu
  cases hu
  simp

set_option maxHeartbeats 1000000 in
theorem put_fine8 (h : Pk F w p l err) (hF : ∀ k, w.heap.size ≤ k → F k) (n : Nat) (hn : n < 18446744073709551616) (hlen : l.length + 8 ≤ 140737488355328) :
    Calls Tryd.prog 26 #[p, .int .i64 8, .int .u64 n] w fun e w' => e = .returned p ∧ Pk F w' p (putS l err (beN 8 n)) err ∧ Kp F w w' := by
  have H := Lib.hid h
  have HF := Lib.hid hF
  clear h hF
  go_enter Tryd.func26, Tryd.ntmps26
  go_wp2_with fail
  refine (isWidth_any _ _).mono ?_
  rintro e w1 ⟨rfl, rfl⟩
  have hwd : wdB 8 = true := rfl
  go_wp2_with fail
  refine wp_loop_rounds 9 ?_
  iterate 9
    rw [rounds_succ]
    go_wp2_with fail
  refine (add_any (H.out.still ((Kp.refl _ w).alloc _)) (fun k hk => HF.out k (by simp at hk; omega)) (beN 8 n) _ 8 8 (beN_length _ _) (beN_rd8 _ n _ 89 w.heap.size (Box.new w _ _) ?cells) (by rw [beN_length]; exact hlen)).mono ?_
  case cells =>
    intro i hi
    obtain rfl | rfl | rfl | rfl | rfl | rfl | rfl | rfl := (by omega : i = 0 ∨ i = 1 ∨ i = 2 ∨ i = 3 ∨ i = 4 ∨ i = 5 ∨ i = 6 ∨ i = 7)
    all_goals simp only [Nat.reduceAdd, Nat.reduceSub, Nat.reducePow, List.getElem?_toArray, List.getElem?_cons_succ, List.getElem?_cons_zero, Option.some.injEq, Value.int.injEq, true_and, Nat.div_one]
    all_goals omega
  rintro e w1 ⟨rfl, h1, h2⟩
  have H1 := Lib.hid h1
  have H2 := Lib.hid h2
  clear h1 h2
  go_wp2_with fail
  go_ret
  exact ⟨rfl, H1.out, ((Kp.refl F w).alloc _).trans H2.out⟩

end

end Go.Proofs.YtcgfnfejacgaeaaDoor
