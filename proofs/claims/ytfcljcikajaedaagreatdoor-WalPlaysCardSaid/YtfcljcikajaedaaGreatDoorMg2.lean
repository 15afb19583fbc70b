/- A packer's calls in every state: one that failed, and no packer at all, stay as they are. At most 2^47 bytes in all. -/
import Derived.Test.YtfcljcikajaedaaGreatDoorMg1
import Derived.Deep.RegionWith
import Derived.Test.YtfcljcikajaedaaGreatDoorChecked
import Derived.IntWalk
import Derived.Laws.BitsAllLaws
import Derived.Shelf.Strings.Builder1
import Derived.Shelf.Strings.Repeat
import Derived.Test.YtfcljcikajaedaaGreatDoorProg
import Derived.Shelf.Strings.BuilderK
import Derived.Lib.Repeat
namespace Go.Proofs.YtfcljcikajaedaaGreatDoor
open Go.RowKit

/-- A packer, or none: none is as one that failed with ErrNil. -/
def Pk (F : Nat → Prop) (w : World) (p : Value) (l : List UInt8) (err : Int) : Prop :=
  (err ≠ 0 → l = []) ∧ ((p = .pointer none ∧ err = 1) ∨ ∃ b, p = .pointer (some ⟨b, 0, none⟩) ∧ Pkr F w b l err)

theorem Pk.kp {F S : Nat → Prop} {w w' : World} {p : Value} {l : List UInt8} {err : Int} (h : Pk F w p l err) (hk : Kp S w w') (hs : ∀ k, F k → ¬ S k) : Pk F w' p l err := by
  obtain ⟨h0, h | ⟨b, e, h⟩⟩ := h
  · exact ⟨h0, .inl h⟩
  · exact ⟨h0, .inr ⟨b, e, h.kp hk hs⟩⟩
theorem Pk.still {F : Nat → Prop} {w w' : World} {p : Value} {l : List UInt8} {err : Int} (h : Pk F w p l err) (hk : Kp (fun _ => False) w w') : Pk F w' p l err := h.kp hk fun _ _ h => h
theorem Pk.kp_box {F : Nat → Prop} {w w' : World} {p : Value} {g : Nat} {l : List UInt8} {err : Int} {t : TypeId} {cs : Array Value} (h : Pk F w p l err) (hk : Kp (fun k => k = g) w w') (hg : Box w g t cs) (h1 : 193 ≠ t) (h2 : 5 ≠ t) : Pk F w' p l err := by
  obtain ⟨h0, h | ⟨b, e, h⟩⟩ := h
  · exact ⟨h0, .inl h⟩
  · exact ⟨h0, .inr ⟨b, e, h.kp_box hk hg h1 h2⟩⟩

/-- What a put leaves: of a packer that failed nothing new. -/
def putS (l : List UInt8) (err : Int) (s : List UInt8) : List UInt8 := if err = 0 then l ++ s else l
/-- What a failure leaves. -/
def errS (err e1 : Int) : Int := if err = 0 then e1 else err

section
variable {F : Nat → Prop} {w : World} {p : Value} {l : List UInt8} {err : Int}

theorem add_any (h : Pk F w p l err) (hF : ∀ k, w.heap.size ≤ k → F k) (s : List UInt8) (A : Option Addr) (n c : Nat) (hn : s.length = n) (hr : Rd w A s) (hlen : l.length + s.length ≤ 140737488355328) :
    Calls Tryz.prog 123 #[p, .slice A n c] w fun e w' => e = .returned p ∧ Pk F w' p (putS l err s) err ∧ Kp F w w' := by
  by_cases he : err = 0
  · subst he
    obtain ⟨h0, ⟨_, h1⟩ | ⟨b, rfl, h⟩⟩ := h
    · cases h1
    · refine (add_fine h hF s A n c hn hr hlen).mono ?_
      rintro e w' ⟨rfl, h2, h3⟩
      exact ⟨rfl, ⟨fun h => absurd rfl h, .inr ⟨b, rfl, by simpa [putS] using h2⟩⟩, h3⟩
  · have hp : putS l err s = l := by simp [putS, he]
    rw [hp]
    obtain ⟨h0, ⟨rfl, h1⟩ | ⟨b, rfl, h⟩⟩ := h
    · refine (add_nil _ w).mono ?_
      rintro e w' ⟨rfl, rfl⟩
      exact ⟨rfl, ⟨h0, .inl ⟨rfl, h1⟩⟩, Kp.refl _ _⟩
    · refine (add_failed h he _).mono ?_
      rintro e w' ⟨rfl, rfl⟩
      exact ⟨rfl, ⟨h0, .inr ⟨b, rfl, h⟩⟩, Kp.refl _ _⟩

theorem fail_any (h : Pk F w p l err) (e1 : Int) :
    Calls Tryz.prog 122 #[p, .int .i64 e1] w fun e w' => e = .returned p ∧ Pk F w' p [] (errS err e1) ∧ Kp F w w' := by
  by_cases he : err = 0
  · subst he
    obtain ⟨h0, ⟨_, h1⟩ | ⟨b, rfl, h⟩⟩ := h
    · cases h1
    · refine (fail_fine h e1).mono ?_
      rintro e w' ⟨rfl, h2, h3⟩
      exact ⟨rfl, ⟨fun _ => rfl, .inr ⟨b, rfl, by simpa [errS] using h2⟩⟩, h3⟩
  · have hp : errS err e1 = err := by simp [errS, he]
    rw [hp]
    obtain ⟨h0, ⟨rfl, h1⟩ | ⟨b, rfl, h⟩⟩ := h
    · refine (fail_nil _ w).mono ?_
      rintro e w' ⟨rfl, rfl⟩
      exact ⟨rfl, ⟨fun _ => rfl, .inl ⟨rfl, h1⟩⟩, Kp.refl _ _⟩
    · have hl := h0 he
      subst hl
      refine (fail_failed h he _).mono ?_
      rintro e w' ⟨rfl, rfl⟩
      exact ⟨rfl, ⟨fun _ => rfl, .inr ⟨b, rfl, h⟩⟩, Kp.refl _ _⟩

set_option maxHeartbeats 400000 in
theorem put_odd (h : Pk F w p l err) (width n : Int) (hw : wdB width = false) :
    Calls Tryz.prog 97 #[p, .int .i64 width, .int .u64 n] w fun e w' => e = .returned p ∧ Pk F w' p [] (errS err 6) ∧ Kp F w w' := by
  have H := Lib.hid h
  clear h
  go_enter Tryz.func97, Tryz.ntmps97
  go_wp2_with fail
  refine (isWidth_any _ _).mono ?_
  rintro e w1 ⟨rfl, rfl⟩
  go_wp2_with fail
  refine (fail_any H.out 6).mono ?_
  rintro e w1 ⟨rfl, h1, h2⟩
  have H1 := Lib.hid h1
  have H2 := Lib.hid h2
  clear h1 h2
  go_wp2_with fail
  go_ret
  exact ⟨rfl, H1.out, H2.out⟩

set_option maxHeartbeats 400000 in
theorem put_big1 (h : Pk F w p l err) (n : Nat) (hn : 256 ≤ n) :
    Calls Tryz.prog 97 #[p, .int .i64 1, .int .u64 n] w fun e w' => e = .returned p ∧ Pk F w' p [] (errS err 6) ∧ Kp F w w' := by
  have H := Lib.hid h
  clear h
  have hsh : ((n : Int) / 256 != 0) = true := by simp; omega
  go_enter Tryz.func97, Tryz.ntmps97
  go_wp2_with fail
  refine (isWidth_any _ _).mono ?_
  rintro e w1 ⟨rfl, rfl⟩
  have hwd : wdB 1 = true := rfl
  go_wp2_with fail
  refine (fail_any H.out 6).mono ?_
  rintro e w1 ⟨rfl, h1, h2⟩
  have H1 := Lib.hid h1
  have H2 := Lib.hid h2
  clear h1 h2
  go_wp2_with fail
  go_ret
  exact ⟨rfl, H1.out, H2.out⟩

theorem beN_rd1 (w : World) (n : Nat) (cs : Array Value) (t : TypeId) (g : Nat) (hg : w.heap[g]? = some (.cells cs t (0, 0))) (hs : ∀ i, i < 1 → cs[7 + i]? = some (.int .u8 ((n / 256 ^ (0 - i) % 256 : Nat) : Int))) : Rd w (some ⟨g, 7, none⟩) (beN 1 n) := by
  refine .inr ⟨g, 7, rfl, fun j u hu => ?_⟩
  rw [cell_of_row w g (7 + j) cs t (0, 0) hg]
  have hj : j < 1 := by
    have := (List.getElem?_eq_some_iff.1 hu).1
    rwa [beN_length] at this
  rw [hs j hj]
  rw [beN_get 1 n j hj] at hu
  cases hu
  simp

set_option maxHeartbeats 1000000 in
theorem put_fine1 (h : Pk F w p l err) (hF : ∀ k, w.heap.size ≤ k → F k) (n : Nat) (hn : n < 256) (hlen : l.length + 1 ≤ 140737488355328) :
    Calls Tryz.prog 97 #[p, .int .i64 1, .int .u64 n] w fun e w' => e = .returned p ∧ Pk F w' p (putS l err (beN 1 n)) err ∧ Kp F w w' := by
  have H := Lib.hid h
  have HF := Lib.hid hF
  clear h hF
  have hsh : ((n : Int) / 256 != 0) = false := by simp; omega
  go_enter Tryz.func97, Tryz.ntmps97
  go_wp2_with fail
  refine (isWidth_any _ _).mono ?_
  rintro e w1 ⟨rfl, rfl⟩
  have hwd : wdB 1 = true := rfl
  go_wp2_with fail
  refine wp_loop_rounds 9 ?_
  iterate 9
    rw [rounds_succ]
    go_wp2_with fail
  refine (add_any (H.out.still ((Kp.refl _ w).alloc _)) (fun k hk => HF.out k (by simp at hk; omega)) (beN 1 n) _ 1 1 (beN_length _ _) (beN_rd1 _ n _ 195 w.heap.size (Box.new w _ _) ?cells) (by rw [beN_length]; exact hlen)).mono ?_
  case cells =>
    intro i hi
    obtain rfl := (by omega : i = 0)
    all_goals simp only [Nat.reduceAdd, Nat.reduceSub, Nat.reducePow, List.getElem?_toArray, List.getElem?_cons_succ, List.getElem?_cons_zero, Option.some.injEq, Value.int.injEq, true_and, Nat.div_one]
    all_goals omega
  rintro e w1 ⟨rfl, h1, h2⟩
  have H1 := Lib.hid h1
  have H2 := Lib.hid h2
  clear h1 h2
  go_wp2_with fail
  go_ret
  exact ⟨rfl, H1.out, ((Kp.refl F w).alloc _).trans H2.out⟩

set_option maxHeartbeats 400000 in
theorem put_big2 (h : Pk F w p l err) (n : Nat) (hn : 65536 ≤ n) :
    Calls Tryz.prog 97 #[p, .int .i64 2, .int .u64 n] w fun e w' => e = .returned p ∧ Pk F w' p [] (errS err 6) ∧ Kp F w w' := by
  have H := Lib.hid h
  clear h
  have hsh : ((n : Int) / 65536 != 0) = true := by simp; omega
  go_enter Tryz.func97, Tryz.ntmps97
  go_wp2_with fail
  refine (isWidth_any _ _).mono ?_
  rintro e w1 ⟨rfl, rfl⟩
  have hwd : wdB 2 = true := rfl
  go_wp2_with fail
  refine (fail_any H.out 6).mono ?_
  rintro e w1 ⟨rfl, h1, h2⟩
  have H1 := Lib.hid h1
  have H2 := Lib.hid h2
  clear h1 h2
  go_wp2_with fail
  go_ret
  exact ⟨rfl, H1.out, H2.out⟩

theorem beN_rd2 (w : World) (n : Nat) (cs : Array Value) (t : TypeId) (g : Nat) (hg : w.heap[g]? = some (.cells cs t (0, 0))) (hs : ∀ i, i < 2 → cs[6 + i]? = some (.int .u8 ((n / 256 ^ (1 - i) % 256 : Nat) : Int))) : Rd w (some ⟨g, 6, none⟩) (beN 2 n) := by
  refine .inr ⟨g, 6, rfl, fun j u hu => ?_⟩
  rw [cell_of_row w g (6 + j) cs t (0, 0) hg]
  have hj : j < 2 := by
    have := (List.getElem?_eq_some_iff.1 hu).1
    rwa [beN_length] at this
  rw [hs j hj]
  rw [beN_get 2 n j hj] at hu
  cases hu
  simp

set_option maxHeartbeats 1000000 in
theorem put_fine2 (h : Pk F w p l err) (hF : ∀ k, w.heap.size ≤ k → F k) (n : Nat) (hn : n < 65536) (hlen : l.length + 2 ≤ 140737488355328) :
    Calls Tryz.prog 97 #[p, .int .i64 2, .int .u64 n] w fun e w' => e = .returned p ∧ Pk F w' p (putS l err (beN 2 n)) err ∧ Kp F w w' := by
  have H := Lib.hid h
  have HF := Lib.hid hF
  clear h hF
  have hsh : ((n : Int) / 65536 != 0) = false := by simp; omega
  go_enter Tryz.func97, Tryz.ntmps97
  go_wp2_with fail
  refine (isWidth_any _ _).mono ?_
  rintro e w1 ⟨rfl, rfl⟩
  have hwd : wdB 2 = true := rfl
  go_wp2_with fail
  refine wp_loop_rounds 9 ?_
  iterate 9
    rw [rounds_succ]
    go_wp2_with fail
  refine (add_any (H.out.still ((Kp.refl _ w).alloc _)) (fun k hk => HF.out k (by simp at hk; omega)) (beN 2 n) _ 2 2 (beN_length _ _) (beN_rd2 _ n _ 195 w.heap.size (Box.new w _ _) ?cells) (by rw [beN_length]; exact hlen)).mono ?_
  case cells =>
    intro i hi
    obtain rfl | rfl := (by omega : i = 0 ∨ i = 1)
    all_goals simp only [Nat.reduceAdd, Nat.reduceSub, Nat.reducePow, List.getElem?_toArray, List.getElem?_cons_succ, List.getElem?_cons_zero, Option.some.injEq, Value.int.injEq, true_and, Nat.div_one]
    all_goals omega
  rintro e w1 ⟨rfl, h1, h2⟩
  have H1 := Lib.hid h1
  have H2 := Lib.hid h2
  clear h1 h2
  go_wp2_with fail
  go_ret
  exact ⟨rfl, H1.out, ((Kp.refl F w).alloc _).trans H2.out⟩

set_option maxHeartbeats 400000 in
theorem put_big4 (h : Pk F w p l err) (n : Nat) (hn : 4294967296 ≤ n) :
    Calls Tryz.prog 97 #[p, .int .i64 4, .int .u64 n] w fun e w' => e = .returned p ∧ Pk F w' p [] (errS err 6) ∧ Kp F w w' := by
  have H := Lib.hid h
  clear h
  have hsh : ((n : Int) / 4294967296 != 0) = true := by simp; omega
  go_enter Tryz.func97, Tryz.ntmps97
  go_wp2_with fail
  refine (isWidth_any _ _).mono ?_
  rintro e w1 ⟨rfl, rfl⟩
  have hwd : wdB 4 = true := rfl
  go_wp2_with fail
  refine (fail_any H.out 6).mono ?_
  rintro e w1 ⟨rfl, h1, h2⟩
  have H1 := Lib.hid h1
  have H2 := Lib.hid h2
  clear h1 h2
  go_wp2_with fail
  go_ret
  exact ⟨rfl, H1.out, H2.out⟩

theorem beN_rd4 (w : World) (n : Nat) (cs : Array Value) (t : TypeId) (g : Nat) (hg : w.heap[g]? = some (.cells cs t (0, 0))) (hs : ∀ i, i < 4 → cs[4 + i]? = some (.int .u8 ((n / 256 ^ (3 - i) % 256 : Nat) : Int))) : Rd w (some ⟨g, 4, none⟩) (beN 4 n) := by
  refine .inr ⟨g, 4, rfl, fun j u hu => ?_⟩
  rw [cell_of_row w g (4 + j) cs t (0, 0) hg]
  have hj : j < 4 := by
    have := (List.getElem?_eq_some_iff.1 hu).1
    rwa [beN_length] at this
  rw [hs j hj]
  rw [beN_get 4 n j hj] at hu
  cases hu
  simp

set_option maxHeartbeats 1000000 in
theorem put_fine4 (h : Pk F w p l err) (hF : ∀ k, w.heap.size ≤ k → F k) (n : Nat) (hn : n < 4294967296) (hlen : l.length + 4 ≤ 140737488355328) :
    Calls Tryz.prog 97 #[p, .int .i64 4, .int .u64 n] w fun e w' => e = .returned p ∧ Pk F w' p (putS l err (beN 4 n)) err ∧ Kp F w w' := by
  have H := Lib.hid h
  have HF := Lib.hid hF
  clear h hF
  have hsh : ((n : Int) / 4294967296 != 0) = false := by simp; omega
  go_enter Tryz.func97, Tryz.ntmps97
  go_wp2_with fail
  refine (isWidth_any _ _).mono ?_
  rintro e w1 ⟨rfl, rfl⟩
  have hwd : wdB 4 = true := rfl
  go_wp2_with fail
  refine wp_loop_rounds 9 ?_
  iterate 9
    rw [rounds_succ]
    go_wp2_with fail
  refine (add_any (H.out.still ((Kp.refl _ w).alloc _)) (fun k hk => HF.out k (by simp at hk; omega)) (beN 4 n) _ 4 4 (beN_length _ _) (beN_rd4 _ n _ 195 w.heap.size (Box.new w _ _) ?cells) (by rw [beN_length]; exact hlen)).mono ?_
  case cells =>
    intro i hi
    obtain rfl | rfl | rfl | rfl := (by omega : i = 0 ∨ i = 1 ∨ i = 2 ∨ i = 3)
    all_goals simp only [Nat.reduceAdd, Nat.reduceSub, Nat.reducePow, List.getElem?_toArray, List.getElem?_cons_succ, List.getElem?_cons_zero, Option.some.injEq, Value.int.injEq, true_and, Nat.div_one]
    all_goals omega
  rintro e w1 ⟨rfl, h1, h2⟩
  have H1 := Lib.hid h1
  have H2 := Lib.hid h2
  clear h1 h2
  go_wp2_with fail
  go_ret
  exact ⟨rfl, H1.out, ((Kp.refl F w).alloc _).trans H2.out⟩

theorem beN_rd8 (w : World) (n : Nat) (cs : Array Value) (t : TypeId) (g : Nat) (hg : w.heap[g]? = some (.cells cs t (0, 0))) (hs : ∀ i, i < 8 → cs[0 + i]? = some (.int .u8 ((n / 256 ^ (7 - i) % 256 : Nat) : Int))) : Rd w (some ⟨g, 0, none⟩) (beN 8 n) := by
  refine .inr ⟨g, 0, rfl, fun j u hu => ?_⟩
  rw [cell_of_row w g (0 + j) cs t (0, 0) hg]
  have hj : j < 8 := by
    have := (List.getElem?_eq_some_iff.1 hu).1
    rwa [beN_length] at this
  rw [hs j hj]
  rw [beN_get 8 n j hj] at hu
  cases hu
  simp

set_option maxHeartbeats 1000000 in
theorem put_fine8 (h : Pk F w p l err) (hF : ∀ k, w.heap.size ≤ k → F k) (n : Nat) (hn : n < 18446744073709551616) (hlen : l.length + 8 ≤ 140737488355328) :
    Calls Tryz.prog 97 #[p, .int .i64 8, .int .u64 n] w fun e w' => e = .returned p ∧ Pk F w' p (putS l err (beN 8 n)) err ∧ Kp F w w' := by
  have H := Lib.hid h
  have HF := Lib.hid hF
  clear h hF
  go_enter Tryz.func97, Tryz.ntmps97
  go_wp2_with fail
  refine (isWidth_any _ _).mono ?_
  rintro e w1 ⟨rfl, rfl⟩
  have hwd : wdB 8 = true := rfl
  go_wp2_with fail
  refine wp_loop_rounds 9 ?_
  iterate 9
    rw [rounds_succ]
    go_wp2_with fail
  refine (add_any (H.out.still ((Kp.refl _ w).alloc _)) (fun k hk => HF.out k (by simp at hk; omega)) (beN 8 n) _ 8 8 (beN_length _ _) (beN_rd8 _ n _ 195 w.heap.size (Box.new w _ _) ?cells) (by rw [beN_length]; exact hlen)).mono ?_
  case cells =>
    intro i hi
    obtain rfl | rfl | rfl | rfl | rfl | rfl | rfl | rfl := (by omega : i = 0 ∨ i = 1 ∨ i = 2 ∨ i = 3 ∨ i = 4 ∨ i = 5 ∨ i = 6 ∨ i = 7)
    all_goals simp only [Nat.reduceAdd, Nat.reduceSub, Nat.reducePow, List.getElem?_toArray, List.getElem?_cons_succ, List.getElem?_cons_zero, Option.some.injEq, Value.int.injEq, true_and, Nat.div_one]
    all_goals omega
  rintro e w1 ⟨rfl, h1, h2⟩
  have H1 := Lib.hid h1
  have H2 := Lib.hid h2
  clear h1 h2
  go_wp2_with fail
  go_ret
  exact ⟨rfl, H1.out, ((Kp.refl F w).alloc _).trans H2.out⟩

end

end Go.Proofs.YtfcljcikajaedaaGreatDoor

/- A packer's texts, names and hashes, and all its bytes; an opener of bytes. At most 2^47 bytes in all. -/
namespace Go.Proofs.YtfcljcikajaedaaGreatDoor
open Go.RowKit

/-- A text's bytes. -/
abbrev tb (s : ByteArray) : List UInt8 := s.data.toList

theorem rd_text (w : World) (s : ByteArray) (cap : Nat) (t : TypeId) (fz : Nat × Nat) : Rd (w.alloc (.cells (bytesRow s cap) t fz)).drew (some ⟨w.heap.size, 0, none⟩) (tb s) := by
  refine .inr ⟨_, 0, rfl, fun j u hu => ?_⟩
  have hg : (w.alloc (.cells (bytesRow s cap) t fz)).drew.heap[w.heap.size]? = some (.cells (bytesRow s cap) t fz) := heap_alloc_new w _
  rw [cell_of_row _ _ _ _ t fz hg]
  have hj : j < s.data.size := by have := (List.getElem?_eq_some_iff.1 hu).1; simpa using this
  rw [bytesRow, Array.getElem?_append_left (by simpa using hj)]
  simp only [Nat.zero_add, Array.getElem?_map]
  rw [Array.getElem?_toList] at hu
  rw [hu]
  rfl

theorem rd_new (w : World) (s : List UInt8) (t : TypeId) : Rd (w.alloc (.cells (bcs s).toArray t)) (some ⟨w.heap.size, 0, none⟩) s := by
  refine .inr ⟨_, 0, rfl, fun j u hu => ?_⟩
  rw [(Box.new w t _).cell]
  simp [bcs_get, hu]
theorem putS_le (l : List UInt8) (err : Int) (s : List UInt8) : (putS l err s).length ≤ l.length + s.length := by
  unfold putS
  split <;> simp

section
variable {F : Nat → Prop} {w : World} {p : Value} {l : List UInt8} {err : Int}

set_option maxHeartbeats 400000 in
theorem text_any (h : Pk F w p l err) (hF : ∀ k, w.heap.size ≤ k → F k) (s : ByteArray) (hlen : l.length + s.size ≤ 140737488355328) :
    Calls Tryz.prog 100 #[p, .string s] w fun e w' => e = .returned p ∧ Pk F w' p (putS l err (tb s)) err ∧ Kp F w w' := by
  have H := Lib.hid h
  have HF := Lib.hid hF
  clear h hF
  have hbs := run_bytes_of_string (P := Tryz.prog) w 9 31 5 s Tryz.underlying9 Tryz.underlying31 Tryz.underlying5
  generalize hcap : grownCap w s.size 0 5 = cap at hbs
  clear hcap
  generalize hrow : (bytesRow s cap).size = rs at hbs
  clear hrow
  go_enter Tryz.func100, Tryz.ntmps100
  go_wp2_with fail
  refine (add_any (H.out.still (((Kp.refl _ w).alloc _).drew)) (fun k hk => HF.out k (by simp at hk; omega)) (tb s) _ s.size cap rfl (rd_text w s cap _ _) hlen).mono ?_
  rintro e w1 ⟨rfl, h1, h2⟩
  have H1 := Lib.hid h1
  have H2 := Lib.hid h2
  clear h1 h2
  go_wp2_with fail
  go_ret
  exact ⟨rfl, H1.out, (((Kp.refl F w).alloc _).drew).trans H2.out⟩

set_option maxHeartbeats 400000 in
theorem name_fine (h : Pk F w p l err) (hF : ∀ k, w.heap.size ≤ k → F k) (s : ByteArray) (hs : s.size ≤ 255) (hlen : l.length + s.size + 1 ≤ 140737488355328) :
    Calls Tryz.prog 98 #[p, .string s] w fun e w' => e = .returned p ∧ Pk F w' p (putS l err (UInt8.ofNat s.size :: tb s)) err ∧ Kp F w w' := by
  have H := Lib.hid h
  have HF := Lib.hid hF
  clear h hF
  have hw : IntKind.u8.wrap (s.size : Int) = s.size := IntWalk.u8_in _ (by omega)
  go_enter Tryz.func98, Tryz.ntmps98
  go_wp2_with fail
  refine (add_any (H.out.still ((Kp.refl _ w).alloc _)) (fun k hk => HF.out k (by simp at hk; omega)) [UInt8.ofNat s.size] _ 1 1 rfl ?rd (by simp; omega)).mono ?_
  case rd =>
    refine .inr ⟨_, 0, rfl, fun j u hu => ?_⟩
    rcases j with _ | j
    · rw [(Box.new w _ _).cell]
      cases hu
      have e : (UInt8.ofNat s.size).toNat = s.size := by simp; omega
      rw [e]
      rfl
    · simp at hu
  rintro e w1 ⟨rfl, h1, h2⟩
  have H1 := Lib.hid h1
  have H2 := Lib.hid h2
  clear h1 h2
  go_wp2_with fail
  refine (text_any H1.out (fun k hk => HF.out k (by have := H2.out.size; simp at this; omega)) s (by have : (putS l err [UInt8.ofNat s.size]).length ≤ l.length + 1 := putS_le l err _; omega)).mono ?_
  rintro e w2 ⟨rfl, h3, h4⟩
  have H3 := Lib.hid h3
  have H4 := Lib.hid h4
  clear h3 h4
  go_wp2_with fail
  go_ret
  refine ⟨rfl, ?_, (((Kp.refl F w).alloc _).trans H2.out).trans H4.out⟩
  have e : putS (putS l err [UInt8.ofNat s.size]) err (tb s) = putS l err (UInt8.ofNat s.size :: tb s) := by
    unfold putS
    split <;> simp
  rw [← e]
  exact H3.out

set_option maxHeartbeats 400000 in
theorem name_long (h : Pk F w p l err) (s : ByteArray) (hs : 255 < s.size) :
    Calls Tryz.prog 98 #[p, .string s] w fun e w' => e = .returned p ∧ Pk F w' p [] (errS err 6) ∧ Kp F w w' := by
  have H := Lib.hid h
  clear h
  go_enter Tryz.func98, Tryz.ntmps98
  go_wp2_with fail
  refine (fail_any H.out 6).mono ?_
  rintro e w1 ⟨rfl, h1, h2⟩
  have H1 := Lib.hid h1
  have H2 := Lib.hid h2
  clear h1 h2
  go_wp2_with fail
  go_ret
  exact ⟨rfl, H1.out, H2.out⟩

/-- A name into a packer that failed, whatever its length. -/
theorem name_nil (h : Pk F w p [] 1) (hF : ∀ k, w.heap.size ≤ k → F k) (s : ByteArray) (hs : s.size ≤ 400) :
    Calls Tryz.prog 98 #[p, .string s] w fun e w' => e = .returned p ∧ Pk F w' p [] 1 ∧ Kp F w w' := by
  rcases Nat.lt_or_ge 255 s.size with hl | hl
  · exact name_long h s hl
  · exact name_fine h hF s hl (by simp; omega)

set_option maxHeartbeats 400000 in
theorem bytes_ptr {b : Nat} (h : Pkr F w b l err) (hlen : l.length ≤ 140737488355328) :
    Calls Tryz.prog 99 #[.pointer (some ⟨b, 0, none⟩)] w fun e w' => ∃ v, e = .returned (.tuple #[v, .int .i64 err]) ∧ Sl w' w.heap.size v l ∧ Kp (fun _ => False) w w' := by
  have H := Lib.hid h
  obtain ⟨hb, v, hx, ho, hv⟩ := h
  obtain ⟨A, c, rfl⟩ := own_shape ho
  have hr := Rd.of_own ho
  have c0 := hx.cell 0
  have c1 := hx.cell 1
  simp at c0 c1
  have Hx : Hid (Box w.drew b 193 #[.slice A l.length c, .int .i64 err]) := hx.drew
  have Hr : Hid (Rd w.drew A l) := hr
  clear hx hr ho
  go_enter Tryz.func99, Tryz.ntmps99
  go_wp2_with fail
  go_region_with (go_at_call 112; refine (clone_any A c l w.drew Hr.out hlen).mono ?_; rintro e w1 ⟨v1, rfl, hs1, hk1⟩; have c1' := (Hx.out.kp hk1 (fun h => h)).cell 1; simp at c1'; have Hs1 := Lib.hid hs1; have Hk1 := Lib.hid hk1; clear hs1 hk1)
  all_goals go_wp2
  all_goals go_ret2
  all_goals exact ⟨_, rfl, Hid.out (by assumption), (Kp.refl _ w).drew.trans (Hid.out (by assumption))⟩

set_option maxHeartbeats 400000 in
theorem bytes_nil (w : World) :
    Calls Tryz.prog 99 #[.pointer none] w fun e w' => e = .returned (.tuple #[.slice none 0 0, .int .i64 1]) ∧ w = w' := by
  go_enter Tryz.func99, Tryz.ntmps99
  go_wp2_with fail
  go_ret2
  exact ⟨rfl, rfl⟩

/-- All the bytes, or none and the error. -/
theorem bytes_any (h : Pk F w p l err) (hlen : l.length ≤ 140737488355328) :
    Calls Tryz.prog 99 #[p] w fun e w' => ∃ A c, e = .returned (.tuple #[.slice A l.length c, .int .i64 err]) ∧ l.length ≤ c ∧ c ≤ maxLen ∧ Rd w' A l ∧ (∀ a, A = some a → w.heap.size ≤ a.block) ∧ Kp (fun _ => False) w w' := by
  obtain ⟨h0, ⟨rfl, rfl⟩ | ⟨b, rfl, h⟩⟩ := h
  · obtain rfl := h0 (by decide)
    refine (bytes_nil w).mono ?_
    rintro e w' ⟨rfl, rfl⟩
    exact ⟨none, 0, rfl, Nat.le_refl _, by simp [maxLen], Rd.nil _ _, (fun _ h => by cases h), Kp.refl _ _⟩
  · refine (bytes_ptr h hlen).mono ?_
    rintro e w' ⟨v, rfl, ⟨A, c, rfl, h1, h2, h3, h4⟩, hk⟩
    exact ⟨A, c, rfl, h1, h2, h3, h4, hk⟩

set_option maxHeartbeats 400000 in
theorem of_any (G : Nat → Prop) (w : World) (hG : ∀ k, w.heap.size ≤ k → G k) (A : Option Addr) (n c : Nat) (l : List UInt8) (hn : l.length = n) (hr : Rd w A l) (hlen : l.length ≤ 140737488355328) :
    Calls Tryz.prog 88 #[.slice A n c] w fun e w' => ∃ b, e = .returned (.pointer (some ⟨b, 0, none⟩)) ∧ w.heap.size ≤ b ∧ Opn G w' b l none ∧ Kp (fun _ => False) w w' := by
  subst hn
  have Hr := Lib.hid hr
  have HG := Lib.hid hG
  clear hr hG
  go_enter Tryz.func88, Tryz.ntmps88
  go_wp2_with fail
  refine (clone_any A c l w Hr.out hlen).mono ?_
  rintro e w1 ⟨v, rfl, ⟨A1, c1, rfl, h1, h2, h3, h4⟩, hk⟩
  have Hd := Lib.hid (And.intro h3 h4)
  have Hk := Lib.hid hk
  clear h3 h4 hk
  go_wp2_with fail
  go_ret
  have hs := Hk.out.size
  refine ⟨_, rfl, hs, ⟨HG.out _ hs, A1, c1, .nilFunc, ?_, h1, h2, Hd.out.1.alloc _, fun _ a ha => HG.out _ (Hd.out.2 a ha), rfl⟩, Hk.out.alloc _⟩
  exact Box.new w1 _ _

end

end Go.Proofs.YtfcljcikajaedaaGreatDoor

/- The division of polynomials behind the checksum, on natural numbers: one step, its linearity, that a step forgets nothing below 2^32, and what bits side by side do to it. Plain arithmetic, no program. -/
namespace Go.Proofs.YtfcljcikajaedaaGreatDoor

def poly : Nat := 2197175160
/-- One step of the division. -/
def st1 (m : Nat) : Nat := m / 2 ^^^ (if m % 2 = 1 then poly else 0)
def stN : Nat → Nat → Nat
  | 0, m => m
  | k + 1, m => stN k (st1 m)
/-- Bytes as one number, the first byte lowest. -/
def leN : List UInt8 → Nat
  | [] => 0
  | x :: l => x.toNat ^^^ (leN l * 256)
/-- The rest behind some bytes. -/
def rest (s : Nat) (l : List UInt8) : Nat := l.foldl (fun r x => stN 8 (r ^^^ x.toNat)) s
/-- The checksum. -/
def crcN (l : List UInt8) : Nat := 4294967295 - rest 4294967295 l

theorem xor_mod2 (a b : Nat) : (a ^^^ b) % 2 = (a % 2 + b % 2) % 2 := by
  have h : (a ^^^ b) % 2 ^ 1 = a % 2 ^ 1 ^^^ b % 2 ^ 1 := Nat.xor_mod_two_pow
  rw [show (2 : Nat) ^ 1 = 2 by decide] at h
  rw [h]
  rcases Nat.mod_two_eq_zero_or_one a with ha | ha <;> rcases Nat.mod_two_eq_zero_or_one b with hb | hb <;> simp [ha, hb]
theorem st1_xor (a b : Nat) : st1 (a ^^^ b) = st1 a ^^^ st1 b := by
  have hd : (a ^^^ b) / 2 = a / 2 ^^^ b / 2 := Nat.xor_div_two
  have hm := xor_mod2 a b
  unfold st1
  rw [hd, hm]
  rcases Nat.mod_two_eq_zero_or_one a with ha | ha <;> rcases Nat.mod_two_eq_zero_or_one b with hb | hb <;> simp [ha, hb]
  · rw [Nat.xor_assoc]
  · rw [Nat.xor_assoc, Nat.xor_assoc, Nat.xor_comm poly]
  · rw [Nat.xor_assoc, Nat.xor_comm poly (b / 2 ^^^ poly), Nat.xor_assoc (b / 2), Nat.xor_self, Nat.xor_zero]
theorem st1_zero : st1 0 = 0 := by decide
theorem stN_zero : ∀ k, stN k 0 = 0
  | 0 => rfl
  | k + 1 => by rw [stN, st1_zero, stN_zero k]
theorem stN_xor : ∀ k a b, stN k (a ^^^ b) = stN k a ^^^ stN k b
  | 0, _, _ => rfl
  | k + 1, a, b => by rw [stN, st1_xor, stN_xor k]; rfl
theorem stN_add : ∀ j k m, stN (j + k) m = stN k (stN j m)
  | 0, k, m => by rw [Nat.zero_add]; rfl
  | j + 1, k, m => by rw [show j + 1 + k = (j + k) + 1 by omega, stN, stN_add j k]; rfl
theorem st1_even (m : Nat) : st1 (m * 2) = m := by unfold st1; simp
theorem stN_shift : ∀ k m, stN k (m * 2 ^ k) = m
  | 0, m => by simp [stN]
  | k + 1, m => by rw [stN, Nat.pow_succ, ← Nat.mul_assoc, st1_even, stN_shift k]
theorem st1_lt (m : Nat) (h : m < 4294967296) : st1 m < 4294967296 := by
  unfold st1
  have e : (4294967296 : Nat) = 2 ^ 32 := by decide
  rw [e] at *
  refine Nat.xor_lt_two_pow (by omega) ?_
  split <;> decide
theorem stN_lt : ∀ k m, m < 4294967296 → stN k m < 4294967296
  | 0, _, h => h
  | k + 1, m, h => stN_lt k _ (st1_lt m h)
theorem xor_zero_eq (a b : Nat) (h : a ^^^ b = 0) : a = b := by
  have := congrArg (fun y => y ^^^ b) h
  simpa [Nat.xor_assoc] using this
theorem st1_inj (m : Nat) (h : m < 4294967296) (h0 : st1 m = 0) : m = 0 := by
  unfold st1 at h0
  by_cases ho : m % 2 = 1
  · rw [if_pos ho] at h0
    have := xor_zero_eq _ _ h0
    unfold poly at this
    omega
  · rw [if_neg ho, Nat.xor_zero] at h0
    omega
theorem stN_inj : ∀ k m, m < 4294967296 → stN k m = 0 → m = 0
  | 0, _, _, h0 => h0
  | k + 1, m, h, h0 => st1_inj m h (stN_inj k _ (st1_lt m h) h0)

/-- Four steps by one look-up. -/
theorem xor_low (q r : Nat) (k : Nat) (h : r < 2 ^ k) : q * 2 ^ k + r = (q * 2 ^ k) ^^^ r := by
  have h1 := Nat.shiftLeft_add_eq_or_of_lt h q
  rw [Nat.shiftLeft_eq] at h1
  rw [h1]
  apply Nat.eq_of_testBit_eq
  intro i
  rw [Nat.testBit_or, Nat.testBit_xor]
  by_cases hi : i < k
  · have : (q * 2 ^ k).testBit i = false := by rw [Nat.testBit_mul_two_pow]; simp; omega
    rw [this]; simp
  · have : r.testBit i = false := Nat.testBit_lt_two_pow (Nat.lt_of_lt_of_le h (Nat.pow_le_pow_right (by omega) (by omega)))
    rw [this]; simp
def tab (i : Nat) : Nat := stN 4 i
theorem stN_four (m : Nat) : stN 4 m = m / 16 ^^^ tab (m % 16) := by
  have h := xor_low (m / 16) (m % 16) 4 (Nat.mod_lt _ (by decide))
  have e : m / 16 * 2 ^ 4 + m % 16 = m := by omega
  rw [e] at h
  conv => lhs; rw [h, stN_xor, stN_shift 4]
  rfl

theorem rest_lt (s : Nat) (l : List UInt8) (hs : s < 4294967296) : rest s l < 4294967296 := by
  induction l generalizing s with
  | nil => exact hs
  | cons x l ih =>
    refine ih _ (stN_lt 8 _ ?_)
    have : x.toNat < 2 ^ 32 := Nat.lt_trans x.toNat_lt (by decide)
    exact Nat.xor_lt_two_pow (n := 32) hs this
theorem rest_append (s : Nat) (l m : List UInt8) : rest s (l ++ m) = rest (rest s l) m := List.foldl_append ..
theorem rest_snoc (s : Nat) (l : List UInt8) (x : UInt8) : rest s (l ++ [x]) = stN 8 (rest s l ^^^ x.toNat) := by rw [rest_append]; rfl
theorem rest_eq (s : Nat) (l : List UInt8) : rest s l = stN (8 * l.length) (s ^^^ leN l) := by
  induction l generalizing s with
  | nil => simp [rest, leN, stN]
  | cons x l ih =>
    show rest (stN 8 (s ^^^ x.toNat)) l = _
    have h8 := stN_shift 8 (leN l)
    rw [show (2 : Nat) ^ 8 = 256 by decide] at h8
    rw [ih, leN, List.length_cons, show 8 * (l.length + 1) = 8 + 8 * l.length by omega, stN_add, ← Nat.xor_assoc, stN_xor 8 _ (leN l * 256), h8]
theorem xor_ones (n : Nat) (h : n < 4294967296) : 4294967295 - n = 4294967295 ^^^ n := by
  apply Nat.eq_of_testBit_eq
  intro i
  have e : (4294967295 : Nat) = 2 ^ 32 - 1 := by decide
  have h2 : (2 ^ 32 - 1 - n).testBit i = (decide (i < 32) && !n.testBit i) := by
    have := Nat.testBit_two_pow_sub_succ (n := 32) (x := n) (by simpa using h) i
    rw [← this]
    congr 1
    omega
  rw [e, h2, Nat.testBit_xor, Nat.testBit_two_pow_sub_one]
  by_cases hi : i < 32
  · simp [hi]
  · have : n.testBit i = false := Nat.testBit_lt_two_pow (Nat.lt_of_lt_of_le (show n < 2 ^ 32 by simpa using h) (Nat.pow_le_pow_right (by omega) (by omega)))
    simp [hi, this]
theorem crcN_lt (l : List UInt8) : crcN l < 4294967296 := by unfold crcN; omega

/-- The lowest four bytes of a number. -/
def le4 (n : Nat) : List UInt8 := [UInt8.ofNat n, UInt8.ofNat (n / 256), UInt8.ofNat (n / 65536), UInt8.ofNat (n / 16777216)]
theorem leN_le4 (n : Nat) (h : n < 4294967296) : leN (le4 n) = n := by
  have s (r q : Nat) (hr : r < 256) : r ^^^ (q * 256) = q * 256 + r := by rw [Nat.xor_comm]; exact (xor_low q r 8 hr).symm
  simp only [le4, leN, UInt8.toNat_ofNat', Nat.zero_mul, Nat.xor_zero]
  rw [s _ _ (Nat.mod_lt _ (by decide)), s _ _ (Nat.mod_lt _ (by decide)), s _ _ (Nat.mod_lt _ (by decide))]
  omega
theorem crc_behind (l : List UInt8) : crcN (l ++ le4 (crcN l)) = 1214729159 := by
  have hr := rest_lt 4294967295 l (by decide)
  have hc := crcN_lt l
  have e : rest 4294967295 (l ++ le4 (crcN l)) = stN 32 4294967295 := by
    rw [rest_append, rest_eq _ (le4 (crcN l)), leN_le4 _ hc]
    show stN 32 _ = _
    congr 1
    unfold crcN
    rw [xor_ones _ hr, Nat.xor_comm 4294967295, ← Nat.xor_assoc, Nat.xor_self, Nat.zero_xor]
  have e2 : stN 32 4294967295 = 3080238136 := by decide +kernel
  show 4294967295 - rest _ _ = _
  rw [e, e2]

theorem leN_inj : ∀ (a b : List UInt8), a.length = b.length → leN a = leN b → a = b
  | [], [], _, _ => rfl
  | [], _ :: _, h, _ => by simp at h
  | _ :: _, [], h, _ => by simp at h
  | x :: a, y :: b, h, e => by
    have s (r q : Nat) (hr : r < 256) : r ^^^ (q * 256) = q * 256 + r := by rw [Nat.xor_comm]; exact (xor_low q r 8 hr).symm
    rw [leN, leN, s _ _ x.toNat_lt, s _ _ y.toNat_lt] at e
    have hx := x.toNat_lt
    have hy := y.toNat_lt
    have e1 : x.toNat = y.toNat := by omega
    have e2 : leN a = leN b := by omega
    rw [UInt8.toNat_inj.1 e1, leN_inj a b (by simpa using h) e2]
theorem leN_set : ∀ (l : List UInt8) (j r : Nat) (hj : j < l.length), r < 8 → leN (l.set j (l[j] ^^^ UInt8.ofNat (2 ^ r))) = leN l ^^^ 2 ^ (8 * j + r)
  | [], j, r, hj, _ => by simp at hj
  | x :: l, 0, r, hj, hr => by
    simp only [List.set_cons_zero, List.getElem_cons_zero, leN, UInt8.toNat_xor, UInt8.toNat_ofNat']
    have : 2 ^ r % 2 ^ 8 = 2 ^ r := Nat.mod_eq_of_lt (Nat.pow_lt_pow_right (by omega) (by omega))
    rw [this, Nat.mul_zero, Nat.zero_add, Nat.xor_assoc, Nat.xor_comm (2 ^ r), ← Nat.xor_assoc]
  | x :: l, j + 1, r, hj, hr => by
    have ih := leN_set l j r (by simpa using hj) hr
    simp only [List.set_cons_succ, List.getElem_cons_succ, leN]
    rw [ih]
    have e : (leN l ^^^ 2 ^ (8 * j + r)) * 256 = leN l * 256 ^^^ 2 ^ (8 * (j + 1) + r) := by
      have := Nat.shiftLeft_xor_distrib (a := leN l) (b := 2 ^ (8 * j + r)) (i := 8)
      simp only [Nat.shiftLeft_eq] at this
      rw [show (256 : Nat) = 2 ^ 8 by decide, this, ← Nat.pow_add]
      congr 2
      omega
    rw [e, Nat.xor_assoc]
/-- What differs by bits of 32 side by side has another checksum, or is the same. -/
theorem crc_tells (a b : List UInt8) (t c : Nat) (hl : a.length = b.length) (ht : t ≤ 8 * b.length) (hc : c < 4294967296) (h : leN a = leN b ^^^ c * 2 ^ t) : crcN a = crcN b ↔ a = b := by
  constructor
  · intro e
    have ha := rest_lt 4294967295 a (by decide)
    have hb := rest_lt 4294967295 b (by decide)
    unfold crcN at e
    have e' : rest 4294967295 a = rest 4294967295 b := by omega
    rw [rest_eq, rest_eq, hl, h, ← Nat.xor_assoc, stN_xor] at e'
    generalize hx : stN (8 * b.length) (4294967295 ^^^ leN b) = x at e'
    have e2 : stN (8 * b.length) (c * 2 ^ t) = 0 := by
      have := congrArg (fun y => x ^^^ y) e'
      simpa [← Nat.xor_assoc] using this
    obtain ⟨k, hk⟩ : ∃ k, 8 * b.length = t + k := ⟨_, (Nat.add_sub_cancel' ht).symm⟩
    rw [hk, stN_add, stN_shift] at e2
    have c0 := stN_inj _ _ hc e2
    rw [c0, Nat.zero_mul, Nat.xor_zero] at h
    exact leN_inj a b hl h
  · intro e; rw [e]

/-- A byte's eight bits one by one, as the document says it. -/
theorem ref_step (n c : Nat) : ((if (n % 2 + c % 2) % 2 = 1 then n / 2 ^^^ poly else n / 2) ^^^ c / 2) = st1 (n ^^^ c) := by
  unfold st1
  rw [xor_mod2 n c, Nat.xor_div_two]
  split
  · rw [Nat.xor_assoc, Nat.xor_comm poly, Nat.xor_assoc]
  · rw [Nat.xor_zero]
theorem stN_succ (k m : Nat) : stN (k + 1) m = st1 (stN k m) := by rw [stN_add k 1]; rfl
end Go.Proofs.YtfcljcikajaedaaGreatDoor

/- The checksum's functions: what each one answers, by the division's steps. Condition: the table of half bytes reads as the program's text lays it. -/
namespace Go.Proofs.YtfcljcikajaedaaGreatDoor
open Go.RowKit

/-- The table of half bytes. -/
def Tbl (w : World) : Prop := ∀ i, i < 16 → w.cell? ⟨0, i, none⟩ = some (.int .u32 (tab i))
theorem Tbl.kp {w w' : World} {S : Nat → Prop} (h : Tbl w) (hk : Kp S w w') (hn : ¬ S 0) : Tbl w' := fun i hi =>
  (hk.cell (p := ⟨0, i, none⟩) (World.block_lt_of_cell? w ⟨0, i, none⟩ (h i hi)) hn).trans (h i hi)
theorem xor_int (a b : Nat) (ha : a < 4294967296) (hb : b < 4294967296) : bits .xor .u32 (a : Int) (b : Int) = ((a ^^^ b : Nat) : Int) := u32_xor_nat a b ha hb

theorem Rd.at' {w : World} {A : Option Addr} {l : List UInt8} {k : Nat} (h : Rd w A l) (hk : k < l.length) : ∃ b o, A = some ⟨b, o, none⟩ ∧ w.cell? ⟨b, o + k, none⟩ = some (.int .u8 l[k].toNat) := by
  rcases h with rfl | ⟨b, o, rfl, hc⟩
  · simp at hk
  · exact ⟨b, o, rfl, hc k l[k] (List.getElem?_eq_getElem hk)⟩
set_option maxHeartbeats 400000 in
theorem divide_any (r : Nat) (x : UInt8) (w : World) (hr : r < 4294967296) (ht : Tbl w) :
    Calls Tryz.prog 128 #[.int .u32 r, .int .u8 x.toNat] w fun e w' => e = .returned (.int .u32 ((stN 8 (r ^^^ x.toNat) : Nat) : Int)) ∧ w = w' := by
  have hx := x.toNat_lt
  have H := Lib.hid ht
  clear ht
  have hm0 : r ^^^ x.toNat < 4294967296 := Nat.xor_lt_two_pow (n := 32) hr (Nat.lt_trans hx (by decide))
  have hq := xor_int r x.toNat hr (Nat.lt_trans hx (by decide))
  generalize r ^^^ x.toNat = m0 at *
  go_enter Tryz.func128, Tryz.ntmps128
  go_wp2_with fail
  clear hq
  go_loop [0, 9] (fun s i => ∃ k : Nat, k ≤ 2 ∧ i = .int .i64 k ∧ s = .int .u32 ((stN (4 * k) m0 : Nat) : Int)) (fun _ i => 2 - (intOf i).toNat)
  case atStart => exact ⟨0, by omega, rfl, rfl⟩
  case round =>
    obtain ⟨k, hk, rfl, rfl⟩ := hrel
    have hm := stN_lt (4 * k) m0 hm0
    have hs : stN (4 * (k + 1)) m0 = stN (4 * k) m0 / 16 ^^^ tab (stN (4 * k) m0 % 16) := by
      rw [show 4 * (k + 1) = 4 * k + 4 by omega, stN_add, stN_four]
    have hlast : 2 ≤ k → stN (4 * k) m0 = stN 8 m0 := by intro h; obtain rfl : k = 2 := by omega
                                                         rfl
    generalize stN (4 * k) m0 = m at *
    have Hs := Lib.hid hs
    have Hl := Lib.hid hlast
    clear hs hlast
    by_cases hlt : k < 2
    · have hc := H.out (m % 16) (Nat.mod_lt _ (by decide))
      have ha : bits .and .u32 (m : Int) 15 = ((m % 16 : Nat) : Int) := by
        have := u32_and_nat m 15 hm (by decide)
        rw [show (15 : Nat) = 2 ^ 4 - 1 by decide, Nat.and_two_pow_sub_one_eq_mod] at this
        exact this
      go_wp2_with fail
      go_round
      case rel =>
        refine ⟨k + 1, by omega, by go_num, ?_⟩
        have hx2 := xor_int (m / 16) (tab (m % 16)) (by omega) (stN_lt 4 _ (by omega))
        rw [Int.natCast_ediv] at hx2
        rw [Hs.out, ← hx2]
        rfl
      case measure => simp [intOf]; omega
    · have hl := Hl.out (by omega)
      subst hl
      go_wp2_with fail
      go_ret
      exact ⟨rfl, rfl⟩

theorem rest_take (s : Nat) (l : List UInt8) (k : Nat) (h : k < l.length) : rest s (l.take (k + 1)) = stN 8 (rest s (l.take k) ^^^ l[k].toNat) := by
  rw [List.take_succ_eq_append_getElem h, rest_snoc]

set_option maxHeartbeats 400000 in
theorem sum_any' (A : Option Addr) (l : List UInt8) (c : Nat) (w : World) (hm : l.length ≤ maxLen) (hr : Rd w A l) (ht : Tbl w) :
    Calls Tryz.prog 102 #[.slice A l.length c] w fun e w' => e = .returned (.int .u32 ((crcN l : Nat) : Int)) ∧ w = w' := by
  unfold maxLen at hm
  have Hr := Lib.hid hr
  have Ht := Lib.hid ht
  clear hr ht
  go_enter Tryz.func102, Tryz.ntmps102
  go_wp2_with fail
  go_loop [3, 8] (fun s i => ∃ k : Nat, k ≤ l.length ∧ i = .int .i64 k ∧ s = .int .u32 ((rest 4294967295 (l.take k) : Nat) : Int)) (fun _ i => l.length - (intOf i).toNat)
  case atStart => exact ⟨0, by omega, rfl, rfl⟩
  case round =>
    obtain ⟨k, hk, rfl, rfl⟩ := hrel
    have hrl := rest_lt 4294967295 (l.take k) (by decide)
    by_cases hlt : k < l.length
    · have hn := Lib.hid (rest_take 4294967295 l k hlt)
      obtain ⟨b, o, rfl, hc⟩ := Hr.out.at' hlt
      generalize l[k] = x at *
      generalize rest 4294967295 (l.take k) = s at *
      go_wp2_with fail
      refine (divide_any s x w hrl Ht.out).mono ?_
      rintro e w' ⟨rfl, rfl⟩
      go_wp2_with fail
      go_round
      case rel => exact ⟨k + 1, by omega, by go_num, by rw [hn.out]⟩
      case measure => simp [intOf]; omega
    · have hk' : l.take k = l := List.take_of_length_le (by omega)
      rw [hk'] at hrl ⊢
      have hf : bits .xor .u32 IntKind.u32.max ((rest 4294967295 l : Nat) : Int) = ((crcN l : Nat) : Int) := by
        rw [crcN, xor_ones _ hrl]
        exact xor_int 4294967295 _ (by decide) hrl
      have Hf := Lib.hid hf
      clear hk' hf
      go_wp2_with fail
      go_ret
      exact ⟨by rw [Hf.out]; rfl, rfl⟩

theorem sum_any (A : Option Addr) (l : List UInt8) (c : Nat) (w : World) (hl : l.length ≤ c) (hm : c ≤ maxLen) (hr : Rd w A l) (ht : Tbl w) :
    Calls Tryz.prog 102 #[.slice A l.length c] w fun e w' => e = .returned (.int .u32 ((crcN l : Nat) : Int)) ∧ w = w' := sum_any' A l c w (Nat.le_trans hl hm) hr ht

theorem int_eq (a b : Nat) : (((a : Nat) : Int) == ((b : Nat) : Int)) = decide (a = b) := by
  by_cases h : a = b
  · simp [h]
  · simp [h]; omega

set_option maxHeartbeats 1000000 in
theorem ref_any (s : ByteArray) (w : World) (hs : s.size ≤ 3000) :
    Calls Tryz.prog 81 #[.string s] w fun e w' => e = .returned (.int .u32 ((crcN s.data.toList : Nat) : Int)) ∧ w = w' := by
  have hz : s.data.toList.length = s.size := Array.length_toList
  go_enter Tryz.func81, Tryz.ntmps81
  go_wp2_with fail
  go_loop [3, 4] (fun n i => ∃ k : Nat, k ≤ s.size ∧ i = .int .i64 k ∧ n = .int .u32 ((rest 4294967295 (s.data.toList.take k) : Nat) : Int)) (fun _ i => s.size - (intOf i).toNat)
  case atStart => exact ⟨0, by omega, rfl, rfl⟩
  case round =>
    obtain ⟨k, hk, rfl, rfl⟩ := hrel
    have hrl := rest_lt 4294967295 (s.data.toList.take k) (by decide)
    by_cases hlt : k < s.size
    · have hn := rest_take 4294967295 s.data.toList k (by omega)
      have hx : s.data.toList[k]'(by omega) = s[k] := rfl
      rw [hx] at hn
      have hxl := s[k].toNat_lt
      have Hn := Lib.hid hn
      generalize rest 4294967295 (s.data.toList.take k) = r at *
      clear hn hx
      go_wp2_with fail
      generalize s[k] = x at *
      go_loop [3, 5, 6] (fun n c i => ∃ j nj : Nat, j ≤ 8 ∧ nj < 4294967296 ∧ i = .int .i64 j ∧ c = .int .u8 ((x.toNat / 2 ^ j : Nat) : Int) ∧ n = .int .u32 (nj : Int) ∧ nj ^^^ x.toNat / 2 ^ j = stN j (r ^^^ x.toNat)) (fun _ _ i => 8 - (intOf i).toNat)
      case atStart => exact ⟨0, r, by omega, hrl, rfl, by simp, rfl, by simp [stN]⟩
      case round =>
        obtain ⟨j, nj, hj, hnj, rfl, rfl, rfl, hst⟩ := hrel
        have hd : x.toNat / 2 ^ (j + 1) = x.toNat / 2 ^ j / 2 := by rw [Nat.div_div_eq_div_mul, Nat.pow_succ]
        have hcl : x.toNat / 2 ^ j < 256 := Nat.lt_of_le_of_lt (Nat.div_le_self _ _) hxl
        have hlast : 8 ≤ j → stN j (r ^^^ x.toNat) = nj → stN 8 (r ^^^ x.toNat) = nj := by
          intro h e
          obtain rfl : j = 8 := by omega
          exact e
        have h8 : 8 ≤ j → x.toNat / 2 ^ j = 0 := by
          intro h
          obtain rfl : j = 8 := by omega
          exact Nat.div_eq_of_lt hxl
        have hs := stN_succ j (r ^^^ x.toNat)
        rw [← hst] at hs hlast
        have hr2 := ref_step nj (x.toNat / 2 ^ j)
        generalize x.toNat / 2 ^ j = c at *
        rw [← hr2] at hs
        have Hd := Lib.hid hd
        have Hs := Lib.hid hs
        have Hl := Lib.hid hlast
        have H8 := Lib.hid h8
        clear hd hs hlast h8 hr2 hst
        by_cases hlt8 : j < 8
        · by_cases hone : (nj % 2 + c % 2) % 2 = 1
          · rw [if_pos hone] at Hs
            go_wp2_with fail
            go_round
            case rel =>
              have hx2 := xor_int (nj / 2) poly (by omega) (by decide)
              rw [Int.natCast_ediv] at hx2
              refine ⟨j + 1, nj / 2 ^^^ poly, by omega, Nat.xor_lt_two_pow (n := 32) (by omega) (by decide), by go_num, ?_, ?_, ?_⟩
              · rw [Hd.out, Int.natCast_ediv]; rfl
              · rw [← hx2]; rfl
              · rw [Hd.out, Hs.out]
            case measure => simp [intOf]; omega
          · rw [if_neg hone] at Hs
            go_wp2_with fail
            go_round
            case rel =>
              refine ⟨j + 1, nj / 2, by omega, by omega, by go_num, ?_, ?_, ?_⟩
              · rw [Hd.out, Int.natCast_ediv]; rfl
              · rw [Int.natCast_ediv]; rfl
              · rw [Hd.out, Hs.out]
            case measure => simp [intOf]; omega
        · obtain rfl : c = 0 := H8.out (by omega)
          have hfin := Hl.out (by omega) (Nat.xor_zero _)
          rw [hfin] at Hn
          clear hfin Hl Hs Hd H8
          go_wp2_with fail
          go_round
          case rel => exact ⟨k + 1, by omega, by go_num, by rw [Hn.out]⟩
          case measure => simp [intOf]; omega
    · have hk' : s.data.toList.take k = s.data.toList := List.take_of_length_le (by omega)
      rw [hk'] at hrl ⊢
      have hf : IntKind.u32.wrap (4294967295 - ((rest 4294967295 s.data.toList : Nat) : Int)) = ((crcN s.data.toList : Nat) : Int) := by
        rw [crcN, IntWalk.u32_in _ (by omega)]
        omega
      have hf2 : 4294967295 - ((rest 4294967295 s.data.toList : Nat) : Int) = ((crcN s.data.toList : Nat) : Int) := by
        rw [crcN]
        omega
      have Hf := Lib.hid hf
      have Hf2 := Lib.hid hf2
      clear hk' hf hf2
      go_wp2_with fail
      go_ret
      exact ⟨by first | (rw [Hf.out]; rfl) | (rw [Hf2.out]; rfl), rfl⟩
end Go.Proofs.YtfcljcikajaedaaGreatDoor

/- What strings.Repeat and a Builder answer here: the library contracts (proved once, over any program) at this program. -/
namespace Go.Proofs.YtfcljcikajaedaaGreatDoor
open Go.Shelf
def Tryz.lays105_ren : Go.Shelf.Ren := ⟨fun | 105 => 101 | 212 => 124 | 99 => 125 | 165 => 126 | 166 => 71 | 170 => 127 | 169 => 72 | 263 => 133 | 264 => 134 | 206 => 135 | 240 => 104 | 241 => 136 | 276 => 129 | 277 => 138 | n => n, fun | 9 => 9 | 3 => 3 | 4 => 4 | 20 => 20 | 0 => 0 | 46 => 146 | 109 => 197 | 5 => 5 | 72 => 128 | 76 => 132 | 51 => 144 | 146 => 206 | 53 => 35 | 148 => 208 | 70 => 126 | 37 => 31 | 75 => 131 | 127 => 171 | 164 => 202 | 80 => 53 | n => n, fun | n => n⟩
theorem Tryz.lays105 : Go.Proofs.Lays.n105 Tryz.prog Tryz.lays105_ren := {
  mixed := by kernel_rfl
  f99 := Tryz.func125.trans (congrArg some (by kernel_rfl))
  f105 := Tryz.func101.trans (congrArg some (by kernel_rfl))
  f165 := Tryz.func126.trans (congrArg some (by kernel_rfl))
  f166 := Tryz.func71.trans (congrArg some (by kernel_rfl))
  f169 := Tryz.func72.trans (congrArg some (by kernel_rfl))
  f170 := Tryz.func127.trans (congrArg some (by kernel_rfl))
  f206 := Tryz.func135.trans (congrArg some (by kernel_rfl))
  f212 := Tryz.func124.trans (congrArg some (by kernel_rfl))
  f240 := Tryz.func104.trans (congrArg some (by kernel_rfl))
  f241 := Tryz.func136.trans (congrArg some (by kernel_rfl))
  f263 := Tryz.func133.trans (congrArg some (by kernel_rfl))
  f264 := Tryz.func134.trans (congrArg some (by kernel_rfl))
  f276 := Tryz.func129.trans (congrArg some (by kernel_rfl))
  f277 := Tryz.func138.trans (congrArg some (by kernel_rfl))
  t0 := Tryz.underlying0
  a0 := Tryz.isAgg0
  z0 := Tryz.sizeOf0
  v0 := Tryz.zeroValue0
  t3 := Tryz.underlying3
  a3 := Tryz.isAgg3
  z3 := Tryz.sizeOf3
  v3 := Tryz.zeroValue3
  t4 := Tryz.underlying4
  a4 := Tryz.isAgg4
  z4 := Tryz.sizeOf4
  v4 := Tryz.zeroValue4
  t5 := Tryz.underlying5
  a5 := Tryz.isAgg5
  z5 := Tryz.sizeOf5
  v5 := Tryz.zeroValue5
  t9 := Tryz.underlying9
  a9 := Tryz.isAgg9
  z9 := Tryz.sizeOf9
  v9 := Tryz.zeroValue9
  t20 := Tryz.underlying20
  a20 := Tryz.isAgg20
  z20 := Tryz.sizeOf20
  v20 := Tryz.zeroValue20
  t37 := Tryz.underlying31
  a37 := Tryz.isAgg31
  z37 := Tryz.sizeOf31
  v37 := Tryz.zeroValue31
  t46 := Tryz.underlying146
  a46 := Tryz.isAgg146
  z46 := Tryz.sizeOf146
  v46 := Tryz.zeroValue146
  t51 := Tryz.underlying144
  a51 := Tryz.isAgg144
  z51 := Tryz.sizeOf144
  v51 := Tryz.zeroValue144
  t53 := Tryz.underlying35
  a53 := Tryz.isAgg35
  z53 := Tryz.sizeOf35
  v53 := Tryz.zeroValue35
  t70 := Tryz.underlying126
  a70 := Tryz.isAgg126
  z70 := Tryz.sizeOf126
  v70 := Tryz.zeroValue126
  t72 := Tryz.underlying128
  a72 := Tryz.isAgg128
  z72 := Tryz.sizeOf128
  v72 := Tryz.zeroValue128
  t75 := Tryz.underlying131
  a75 := Tryz.isAgg131
  z75 := Tryz.sizeOf131
  v75 := Tryz.zeroValue131
  t76 := Tryz.underlying132
  a76 := Tryz.isAgg132
  z76 := Tryz.sizeOf132
  v76 := Tryz.zeroValue132
  t109 := Tryz.underlying197
  a109 := Tryz.isAgg197
  z109 := Tryz.sizeOf197
  v109 := Tryz.zeroValue197
  t127 := Tryz.underlying171
  a127 := Tryz.isAgg171
  z127 := Tryz.sizeOf171
  v127 := Tryz.zeroValue171
  t146 := Tryz.underlying206
  a146 := Tryz.isAgg206
  z146 := Tryz.sizeOf206
  v146 := Tryz.zeroValue206
  t148 := Tryz.underlying208
  a148 := Tryz.isAgg208
  z148 := Tryz.sizeOf208
  v148 := Tryz.zeroValue208
  t164 := Tryz.underlying202
  a164 := Tryz.isAgg202
  z164 := Tryz.sizeOf202
  v164 := Tryz.zeroValue202 }
theorem Tryz.Builder_Extra_105 : Builder.Extra Tryz.prog Tryz.lays105_ren := {
  sizeBuilder := by kernel_rfl
  liesBuilder := by kernel_rfl
  t5 := Tryz.underlying5
  a5 := Tryz.isAgg5
  z5 := Tryz.sizeOf5
  v5 := Tryz.zeroValue5
  infoByte := by kernel_rfl
  cellsByte := by kernel_rfl
  sizeByte := by kernel_rfl
  neB5 := by decide }
open Go.RowKit Go.Lib in
theorem Tryz.strings_Repeat (s : ByteArray) (c : Nat) (w : World) (hc : c ≤ 9223372036854775807) (hlen : s.size * c ≤ 140737488355328) :
    Calls Tryz.prog 101 #[.string s, .int .i64 c] w fun e w' => e = .returned (.string ⟨(Lib.repeatL s.data.toList c).toArray⟩) ∧ Below w.heap.size w w' := Any.strings_Repeat Tryz.lays105 Tryz.Builder_Extra_105 s c w hc hlen

open Go.RowKit Go.Lib in
theorem Tryz.Builder_WriteString (B b : Nat) (bs : List Value) (s : ByteArray) (w : World) (h : Lib.IsBuilder 128 5 B b bs w) (hlen : bs.length + s.size ≤ 140737488355328) (hBw : B ≤ w.heap.size) :
    Calls Tryz.prog 71 #[.pointer (some ⟨b, 0, none⟩), .string s] w fun e w' => e = .returned (.tuple #[.int .i64 s.size, .nilIface]) ∧ (Lib.BuilderAt 128 5 B b (.pointer (some ⟨b, 0, none⟩)) (bs ++ Lib.strCells s) w' ∧ Below B w w') := Any.Builder_WriteString { Tryz.lays105 with } Tryz.Builder_Extra_105 B b bs s w h hlen hBw
open Go.RowKit Go.Lib in
theorem Tryz.Builder_String_any (B b : Nat) (l : List UInt8) (w : World) (h : Lib.IsBuilder 128 5 B b (Lib.byteCells l) w) (hBw : B ≤ w.heap.size) :
    Calls Tryz.prog 72 #[.pointer (some ⟨b, 0, none⟩)] w fun e w' => e = .returned (.string ⟨l.toArray⟩) ∧ Below B w w' := Any.Builder_String_any { Tryz.lays105 with } Tryz.Builder_Extra_105 B b l w h hBw
end Go.Proofs.YtfcljcikajaedaaGreatDoor

/- What a Builder answers here, and what it leaves as it was: the library contracts (proved once, over any program) at this program. -/
namespace Go.Proofs.YtfcljcikajaedaaGreatDoor
open Go.Shelf Go.RowKit Go.Lib
theorem Tryz.Builder_WriteString_k (B b : Nat) (bs : List Value) (s : ByteArray) (w : World) (h : Lib.IsBuilderF 128 5 B b bs w) (hlen : bs.length + s.size ≤ 140737488355328) (hBw : B ≤ w.heap.size) :
    Calls Tryz.prog 71 #[.pointer (some ⟨b, 0, none⟩), .string s] w fun e w' => e = .returned (.tuple #[.int .i64 s.size, .nilIface]) ∧ (Lib.BuilderAtF 128 5 B b (.pointer (some ⟨b, 0, none⟩)) (bs ++ Lib.strCells s) w' ∧ Below B w w' ∧ Lib.OthersKept 5 (some b) w w') := Any.Builder_WriteString_k { Tryz.lays105 with } Tryz.Builder_Extra_105 B b bs s w h hlen hBw
theorem Tryz.Builder_String_any_k (B b : Nat) (l : List UInt8) (w : World) (h : Lib.IsBuilderF 128 5 B b (Lib.byteCells l) w) (hBw : B ≤ w.heap.size) :
    Calls Tryz.prog 72 #[.pointer (some ⟨b, 0, none⟩)] w fun e w' => e = .returned (.string ⟨l.toArray⟩) ∧ (Lib.IsBuilderF 128 5 B b (Lib.byteCells l) w' ∧ Below B w w' ∧ Lib.OthersKept 5 (some b) w w') := Any.Builder_String_any_k { Tryz.lays105 with } Tryz.Builder_Extra_105 B b l w h hBw
theorem builderF_new (w : World) : Lib.IsBuilderF 128 5 w.heap.size w.heap.size (Lib.byteCells []) (w.alloc (.cells #[.pointer none, .slice none 0 0] 128)) :=
  Lib.IsBuilderF.of (.inl ⟨Nat.le_refl _, .slice none 0 0, Box.new w _ _, World.ownsRow_nil _ _ _ _, by simp [Value.ownBlock]⟩)
theorem builderF_alloc {B b : Nat} {bs : List Value} {w : World} (h : Lib.IsBuilderF 128 5 B b bs w) (o : Obj) : Lib.IsBuilderF 128 5 B b bs (w.alloc o) := by
  rcases h with ⟨h1, v, h2, h3, h4⟩ | ⟨h1, v, h2, h3, h4⟩
  · exact .inl ⟨h1, v, Box.alloc h2 o, h3.kept (World.grownBy_alloc w o none) (Classical.em _), h4⟩
  · exact .inr ⟨h1, v, Box.alloc h2 o, h3.kept (World.grownBy_alloc w o none) (Classical.em _), h4⟩
/-- A block that is no builder and no row of bytes stands as it stood. -/
theorem Box.others {w w' : World} {g b : Nat} {t : TypeId} {cs : Array Value} (h : Box w g t cs) (hk : Lib.OthersKept 5 (some b) w w') (hb : g ≠ b) (ht : t ≠ 5) : Box w' g t cs :=
  hk g _ h (fun e => hb (by injection e)) (fun c fz e => ht (by injection e))
end Go.Proofs.YtfcljcikajaedaaGreatDoor

/- A sheet's sector, a text's sheets, as lists of bytes: plain arithmetic, no program. -/
namespace Go.Proofs.YtfcljcikajaedaaGreatDoor

structure Sh where
  q : Nat
  last : Bool
  t : List UInt8

theorem Sh.ext' {a b : Sh} (h1 : a.q = b.q) (h2 : a.last = b.last) (h3 : a.t = b.t) : a = b := by
  cases a; cases b; simp_all

instance : DecidableEq Sh := fun a b =>
  if h : a.q = b.q ∧ a.last = b.last ∧ a.t = b.t then isTrue (Sh.ext' h.1 h.2.1 h.2.2) else isFalse fun e => h ⟨congrArg Sh.q e, congrArg Sh.last e, congrArg Sh.t e⟩

def kindN (b : Bool) : Nat := if b then 2 else 1
/-- All but the checksum. -/
def bodyL (q : Nat) (b : Bool) (l : List UInt8) : List UInt8 := beN 8 q ++ beN 1 (kindN b) ++ beN 2 l.length ++ l ++ List.replicate (497 - l.length) 0
/-- The sector. -/
def secL (q : Nat) (b : Bool) (l : List UInt8) : List UInt8 := bodyL q b l ++ le4 (crcN (bodyL q b l))

theorem bodyL_length (q : Nat) (b : Bool) (l : List UInt8) (h : l.length ≤ 497) : (bodyL q b l).length = 508 := by
  simp [bodyL, beN_length]; omega
theorem secL_length (q : Nat) (b : Bool) (l : List UInt8) (h : l.length ≤ 497) : (secL q b l).length = 512 := by
  simp [secL, bodyL_length q b l h, le4]

/-- A number of 32 bits with its bytes turned round. -/
def rev32 (n : Nat) : Nat := ((n % 256 * 256 + n / 256 % 256) * 256 + n / 65536 % 256) * 256 + n / 16777216 % 256
theorem rev32_lt (n : Nat) : rev32 n < 4294967296 := by unfold rev32; omega
theorem ofNat_mod (n : Nat) : UInt8.ofNat (n % 256) = UInt8.ofNat n := by
  apply UInt8.toNat_inj.1
  simp
set_option maxRecDepth 100000 in
theorem beN_rev (n : Nat) : beN 4 (rev32 n) = le4 n := by
  have h1 := ofNat_mod n
  have h2 := ofNat_mod (n / 256)
  have h3 := ofNat_mod (n / 65536)
  have h4 := ofNat_mod (n / 16777216)
  simp only [beN, le4, List.nil_append, List.cons_append]
  rw [← h1, ← h2, ← h3, ← h4]
  unfold rev32
  have l1 : n % 256 < 256 := Nat.mod_lt _ (by decide)
  have l2 : n / 256 % 256 < 256 := Nat.mod_lt _ (by decide)
  have l3 : n / 65536 % 256 < 256 := Nat.mod_lt _ (by decide)
  have l4 : n / 16777216 % 256 < 256 := Nat.mod_lt _ (by decide)
  clear h1 h2 h3 h4
  generalize n % 256 = a at *
  generalize n / 256 % 256 = b at *
  generalize n / 65536 % 256 = c at *
  generalize n / 16777216 % 256 = d at *
  have q (x y : Nat) (h : y < 256) : (x * 256 + y) / 256 = x ∧ (x * 256 + y) % 256 = y := by omega
  rw [(q _ d l4).1, (q _ d l4).2, (q _ c l3).1, (q _ c l3).2, (q _ b l2).1, (q _ b l2).2, Nat.mod_eq_of_lt l1]
theorem repeat_zero (c : Nat) : Lib.repeatL [0] c = List.replicate c (0 : UInt8) := by
  induction c with
  | zero => rfl
  | succ c ih => rw [Lib.repeatL, ih, List.replicate_succ]; rfl

/-- What stands in a sector's places. -/
def tq (l : List UInt8) : Nat := numN (l.take 8)
def tl (l : List UInt8) : Bool := decide (numN ((l.drop 8).take 1) = 2)
def tn (l : List UInt8) : Nat := numN ((l.drop 9).take 2)
def tt (l : List UInt8) : List UInt8 := (l.drop 11).take (tn l)
/-- The sheet of bytes, if they are a sector. -/
def takeS (l : List UInt8) : Option Sh := if l.length = 512 ∧ tn l ≤ 497 ∧ secL (tq l) (tl l) (tt l) = l then some ⟨tq l, tl l, tt l⟩ else none

theorem takeS_some {l : List UInt8} {s : Sh} (h : takeS l = some s) : l.length = 512 ∧ tn l ≤ 497 ∧ secL (tq l) (tl l) (tt l) = l ∧ s = ⟨tq l, tl l, tt l⟩ := by
  unfold takeS at h
  split at h
  · next h1 => exact ⟨h1.1, h1.2.1, h1.2.2, (by injection h with h; exact h.symm)⟩
  · cases h
theorem takeS_crc {l : List UInt8} {s : Sh} (h : takeS l = some s) : crcN l = 1214729159 := by
  obtain ⟨_, _, h3, _⟩ := takeS_some h
  rw [← h3]
  exact crc_behind _
/-- What differs from a sector by bits of 32 side by side is none's. -/
theorem takeS_changed {l m : List UInt8} {s : Sh} (h : takeS l = some s) (hl : m.length = l.length) (t c : Nat) (ht : t ≤ 8 * l.length) (hc : c < 4294967296) (hx : leN m = leN l ^^^ c * 2 ^ t) (hne : m ≠ l) : takeS m = none := by
  rcases hm : takeS m with _ | s'
  · rfl
  · exact absurd ((crc_tells m l t c hl ht hc hx).1 ((takeS_crc hm).trans (takeS_crc h).symm)) hne

theorem bodyL_eq (q : Nat) (b : Bool) (l : List UInt8) : bodyL q b l = beN 8 q ++ (beN 1 (kindN b) ++ (beN 2 l.length ++ (l ++ List.replicate (497 - l.length) 0))) := by
  simp only [bodyL, List.append_assoc]
theorem tq_secL (q : Nat) (b : Bool) (l : List UInt8) (hq : q < 18446744073709551616) : tq (secL q b l) = q := by
  unfold tq secL
  rw [bodyL_eq, List.append_assoc, List.take_left' (beN_length 8 q)]
  exact numN_beN 8 q (by simpa using hq)
theorem tk_secL (q : Nat) (b : Bool) (l : List UInt8) : numN (((secL q b l).drop 8).take 1) = kindN b := by
  unfold secL
  rw [bodyL_eq, List.append_assoc, List.drop_left' (beN_length 8 q), List.append_assoc, List.take_left' (beN_length 1 _)]
  exact numN_beN 1 _ (by cases b <;> decide)
theorem tl_secL (q : Nat) (b : Bool) (l : List UInt8) : tl (secL q b l) = b := by
  unfold tl
  rw [tk_secL]
  cases b <;> decide
theorem drop9 (q : Nat) (b : Bool) (l : List UInt8) : (secL q b l).drop 9 = beN 2 l.length ++ (l ++ (List.replicate (497 - l.length) 0 ++ le4 (crcN (bodyL q b l)))) := by
  unfold secL
  generalize crcN (bodyL q b l) = c
  rw [bodyL_eq]
  rw [show (9 : Nat) = 8 + 1 by rfl, ← List.drop_drop, List.append_assoc, List.drop_left' (beN_length 8 q), List.append_assoc, List.drop_left' (beN_length 1 _)]
  simp only [List.append_assoc]
theorem tn_secL (q : Nat) (b : Bool) (l : List UInt8) (h : l.length ≤ 497) : tn (secL q b l) = l.length := by
  unfold tn
  rw [drop9, List.take_left' (beN_length 2 _)]
  exact numN_beN 2 _ (by omega)
theorem tt_secL (q : Nat) (b : Bool) (l : List UInt8) (h : l.length ≤ 497) : tt (secL q b l) = l := by
  unfold tt
  rw [tn_secL q b l h, show (11 : Nat) = 9 + 2 by rfl, ← List.drop_drop, drop9, List.drop_left' (beN_length 2 _), List.take_left' rfl]
theorem takeS_secL (q : Nat) (b : Bool) (l : List UInt8) (hq : q < 18446744073709551616) (h : l.length ≤ 497) : takeS (secL q b l) = some ⟨q, b, l⟩ := by
  unfold takeS
  rw [tq_secL q b l hq, tl_secL, tt_secL q b l h, tn_secL q b l h, if_pos ⟨secL_length q b l h, h, rfl⟩]
/-- A sector's ninth byte is 1 or 2. -/
theorem takeS_kind {l : List UInt8} (h : numN ((l.drop 8).take 1) ≠ 1) (h2 : numN ((l.drop 8).take 1) ≠ 2) : takeS l = none := by
  rcases hm : takeS l with _ | s
  · rfl
  · obtain ⟨_, _, h3, _⟩ := takeS_some hm
    have := tk_secL (tq l) (tl l) (tt l)
    rw [h3] at this
    cases hb : tl l <;> rw [hb] at this <;> simp only [kindN] at this
    · exact absurd this h
    · exact absurd this h2

/-- How many sheets. -/
def need (n : Nat) : Nat := (n - 1) / 497 + 1
/-- The i-th sheet of a text. -/
def shAt (q : Nat) (l : List UInt8) (i : Nat) : Sh := ⟨(q + i) % 18446744073709551616, i + 1 == need l.length, (l.drop (497 * i)).take 497⟩
def cutL (q : Nat) (l : List UInt8) : List Sh := (List.range (need l.length)).map (shAt q l)
theorem cutL_length (q : Nat) (l : List UInt8) : (cutL q l).length = need l.length := by simp [cutL]
theorem need_pos (n : Nat) : 0 < need n := Nat.succ_pos _
theorem cutL_get (q : Nat) (l : List UInt8) (i : Nat) (h : i < need l.length) : (cutL q l)[i]? = some (shAt q l i) := by simp [cutL, h]
theorem cutL_take (q : Nat) (l : List UInt8) (i : Nat) (h : i < need l.length) : (cutL q l).take (i + 1) = (cutL q l).take i ++ [shAt q l i] := by
  rw [List.take_add_one, cutL_get q l i h]; rfl
theorem shAt_le (q : Nat) (l : List UInt8) (i : Nat) : (shAt q l i).t.length ≤ 497 := by simp [shAt]; omega
theorem shAt_lt (q : Nat) (l : List UInt8) (i : Nat) : (shAt q l i).q < 18446744073709551616 := Nat.mod_lt _ (by decide)
/-- All texts, one behind the other. -/
def cat (l : List Sh) : List UInt8 := (l.map (·.t)).flatten
theorem cat_snoc (l : List Sh) (s : Sh) : cat (l ++ [s]) = cat l ++ s.t := by simp [cat]
theorem cat_take (q : Nat) (l : List UInt8) : ∀ k, k ≤ need l.length → cat ((cutL q l).take k) = l.take (497 * k)
  | 0, _ => by simp [cat]
  | k + 1, h => by
    rw [cutL_take q l k h, cat_snoc, cat_take q l k (by omega)]
    show l.take (497 * k) ++ (l.drop (497 * k)).take 497 = _
    rw [Nat.mul_succ, List.take_add]
theorem cat_cutL (q : Nat) (l : List UInt8) : cat (cutL q l) = l := by
  have := cat_take q l (need l.length) (Nat.le_refl _)
  rw [List.take_of_length_le (by rw [cutL_length]; exact Nat.le_refl _), List.take_of_length_le (by unfold need; omega)] at this
  exact this
/-- The text that is cut into just these sheets. -/
def joinS (l : List Sh) : Option (List UInt8) := match l with
  | [] => none
  | s :: _ => if cutL s.q (cat l) = l then some (cat l) else none
theorem cutL_head (q : Nat) (l : List UInt8) (hq : q < 18446744073709551616) : ∃ r, cutL q l = ⟨q, 1 == need l.length, l.take 497⟩ :: r := by
  have h0 := cutL_get q l 0 (need_pos _)
  rcases hc : cutL q l with _ | ⟨s, r⟩
  · rw [hc] at h0; cases h0
  · rw [hc] at h0
    injection h0 with h0
    refine ⟨r, ?_⟩
    rw [h0]
    simp [shAt, Nat.mod_eq_of_lt hq]
theorem joinS_cutL (q : Nat) (l : List UInt8) (hq : q < 18446744073709551616) : joinS (cutL q l) = some l := by
  obtain ⟨r, hr⟩ := cutL_head q l hq
  have hc := cat_cutL q l
  rw [hr] at hc ⊢
  unfold joinS
  simp only [hc]
  rw [if_pos hr]
theorem joinS_some {l : List Sh} {t : List UInt8} (h : joinS l = some t) : ∃ q, l = cutL q t ∧ t = cat l := by
  cases l with
  | nil => cases h
  | cons s r =>
    unfold joinS at h
    simp only at h
    split at h
    · next hc => injection h with h; exact ⟨s.q, by rw [← h]; exact hc.symm, h.symm⟩
    · cases h
theorem joinS_le {l : List Sh} {t : List UInt8} (h : joinS l = some t) : ∀ s ∈ l, s.t.length ≤ 497 := by
  obtain ⟨q, hl, _⟩ := joinS_some h
  intro s hs
  rw [hl] at hs
  simp only [cutL, List.mem_map] at hs
  obtain ⟨i, _, rfl⟩ := hs
  exact shAt_le _ _ _
/-- Without its last sheet a text is none's. -/
theorem joinS_short (q : Nat) (l : List UInt8) (n : Nat) (hn : n + 1 = need l.length) : joinS ((cutL q l).take n) = none := by
  rcases hm : joinS ((cutL q l).take n) with _ | t
  · rfl
  · obtain ⟨q', h1, h2⟩ := joinS_some hm
    have hlen := congrArg List.length h1
    rw [List.length_take, cutL_length, cutL_length] at hlen
    have hp := need_pos t.length
    have hg : ((cutL q l).take n)[n - 1]? = (cutL q' t)[n - 1]? := by rw [h1]
    rw [cutL_get q' t (n - 1) (by omega), List.getElem?_take, if_pos (by omega), cutL_get q l (n - 1) (by omega)] at hg
    injection hg with hg
    have hb := congrArg Sh.last hg
    simp only [shAt] at hb
    have e1 : (n - 1 + 1 == need l.length) = false := by simp; omega
    have e2 : (n - 1 + 1 == need t.length) = true := by simp; omega
    rw [e1, e2] at hb
    cases hb
end Go.Proofs.YtfcljcikajaedaaGreatDoor

/- math/bits.ReverseBytes32: a number of 32 bits, its bytes turned round. No condition. -/
namespace Go.Proofs.YtfcljcikajaedaaGreatDoor
open Go.RowKit

def revG (n : Nat) : Nat := (n / 256 &&& 16711935) ||| ((n &&& 16711935) * 256 % 4294967296)
theorem tb_or (q r k : Nat) (h : r < 2 ^ k) : q * 2 ^ k + r = (q * 2 ^ k) ^^^ r := xor_low q r k h
theorem rev_bits (n : Nat) (h : n < 4294967296) : revG n / 65536 ||| (revG n * 65536 % 4294967296) = rev32 n := by
  apply Nat.eq_of_testBit_eq
  intro i
  have hb (j : Nat) (hj : 32 ≤ j) : n.testBit j = false := Nat.testBit_lt_two_pow (Nat.lt_of_lt_of_le (show n < 2 ^ 32 by simpa using h) (Nat.pow_le_pow_right (by omega) hj))
  have hr : rev32 n = (n % 2 ^ 8 * 2 ^ 24) ^^^ ((n / 2 ^ 8 % 2 ^ 8 * 2 ^ 16) ^^^ ((n / 2 ^ 16 % 2 ^ 8 * 2 ^ 8) ^^^ (n / 2 ^ 24 % 2 ^ 8))) := by
    have l1 : n % 256 < 256 := Nat.mod_lt _ (by decide)
    have l2 : n / 256 % 256 < 256 := Nat.mod_lt _ (by decide)
    have l3 : n / 65536 % 256 < 256 := Nat.mod_lt _ (by decide)
    have l4 : n / 16777216 % 256 < 256 := Nat.mod_lt _ (by decide)
    simp only [Nat.reducePow]
    unfold rev32
    generalize n % 256 = a at *
    generalize n / 256 % 256 = b at *
    generalize n / 65536 % 256 = c at *
    generalize n / 16777216 % 256 = d at *
    have y2 : c * 256 + d < 65536 := by omega
    have y1 : b * 65536 + (c * 256 + d) < 2 ^ 24 := Nat.lt_of_lt_of_le (show _ < (b + 1) * 65536 by rw [Nat.succ_mul]; exact Nat.add_lt_add_left y2 _) (Nat.le_trans (Nat.mul_le_mul_right 65536 (Nat.succ_le_of_lt l2)) (by decide))
    have x1 := xor_low a (b * 65536 + (c * 256 + d)) 24 y1
    have x2 := xor_low b (c * 256 + d) 16 y2
    have x3 := xor_low c d 8 (by simpa using l4)
    simp only [Nat.reducePow] at x1 x2 x3
    rw [← x3, ← x2, ← x1]
    simp only [Nat.add_mul, Nat.mul_assoc, Nat.reduceMul, Nat.add_assoc]
  have m8 : (16711935 : Nat) = (255 * 2 ^ 16) ^^^ 255 := by decide
  have hm (j : Nat) : (16711935 : Nat).testBit j = ((decide (16 ≤ j) && decide (j - 16 < 8)) ^^ decide (j < 8)) := by
    rw [m8, Nat.testBit_xor, Nat.testBit_mul_two_pow, show (255 : Nat) = 2 ^ 8 - 1 by decide, Nat.testBit_two_pow_sub_one, Nat.testBit_two_pow_sub_one]
  rw [hr]
  unfold revG
  rw [show (256 : Nat) = 2 ^ 8 by decide, show (65536 : Nat) = 2 ^ 16 by decide, show (4294967296 : Nat) = 2 ^ 32 by decide]
  simp only [Nat.testBit_or, Nat.testBit_xor, Nat.testBit_and, Nat.testBit_mul_two_pow, Nat.testBit_mod_two_pow, Nat.testBit_div_two_pow, hm]
  rcases Nat.lt_or_ge i 32 with hi | hi
  · have hc : i = 0 ∨ i = 1 ∨ i = 2 ∨ i = 3 ∨ i = 4 ∨ i = 5 ∨ i = 6 ∨ i = 7 ∨ i = 8 ∨ i = 9 ∨ i = 10 ∨ i = 11 ∨ i = 12 ∨ i = 13 ∨ i = 14 ∨ i = 15 ∨ i = 16 ∨ i = 17 ∨ i = 18 ∨ i = 19 ∨ i = 20 ∨ i = 21 ∨ i = 22 ∨ i = 23 ∨ i = 24 ∨ i = 25 ∨ i = 26 ∨ i = 27 ∨ i = 28 ∨ i = 29 ∨ i = 30 ∨ i = 31 := by omega
    clear hm m8 hr hi
    rcases hc with rfl | rfl | rfl | rfl | rfl | rfl | rfl | rfl | rfl | rfl | rfl | rfl | rfl | rfl | rfl | rfl | rfl | rfl | rfl | rfl | rfl | rfl | rfl | rfl | rfl | rfl | rfl | rfl | rfl | rfl | rfl | rfl <;> simp [hb]
  · have e1 : decide (i < 32) = false := by simp; omega
    have e2 : decide (i - 24 < 8) = false := by simp; omega
    have e3 : decide (i - 16 < 8) = false := by simp; omega
    have e4 : decide (i - 8 < 8) = false := by simp; omega
    have e5 : decide (i < 8) = false := by simp; omega
    simp [e1, e2, e3, e4, e5]
    all_goals omega

theorem revG_lt (n : Nat) (_h : n < 4294967296) : revG n < 4294967296 := by
  have e : (4294967296 : Nat) = 2 ^ 32 := by decide
  unfold revG
  rw [e] at *
  exact Nat.or_lt_two_pow (Nat.and_lt_two_pow _ (by decide)) (Nat.mod_lt _ (by decide))
set_option maxHeartbeats 400000 in
theorem rev_any (n : Nat) (w : World) (hn : n < 4294967296) :
    Calls Tryz.prog 106 #[.int .u32 (n : Int)] w fun e w' => e = .returned (.int .u32 ((rev32 n : Nat) : Int)) ∧ w = w' := by
  have hd : n / 256 < 4294967296 := Nat.lt_of_le_of_lt (Nat.div_le_self _ _) hn
  have a1 := u32_and_nat (n / 256) 16711935 hd (by decide)
  have a2 := u32_and_nat n 16711935 hn (by decide)
  have hg := revG_lt n hn
  have g1 := u32_or_nat (n / 256 &&& 16711935) ((n &&& 16711935) * 256 % 4294967296) (Nat.and_lt_two_pow (n := 32) _ (by decide)) (Nat.mod_lt _ (by decide))
  have g2 := u32_or_nat (revG n / 65536) (revG n * 65536 % 4294967296) (Nat.lt_of_le_of_lt (Nat.div_le_self _ _) hg) (Nat.mod_lt _ (by decide))
  rw [rev_bits n hn] at g2
  change _ = ((revG n : Nat) : Int) at g1
  generalize revG n = r at *
  generalize n / 256 &&& 16711935 = x at *
  generalize n &&& 16711935 = y at *
  have A1 := Lib.hid a1
  have A2 := Lib.hid a2
  have G1 := Lib.hid g1
  have G2 := Lib.hid g2
  clear a1 a2 g1 g2 hg hd
  go_enter Tryz.func106, Tryz.ntmps106
  go_wp2_with fail
  go_ret
  have B1 := A1.out
  have B2 := A2.out
  have B3 := G1.out
  have B4 := G2.out
  simp only [Int.natCast_ediv, Int.natCast_emod, Int.natCast_mul, Int.cast_ofNat_Int] at B1 B2 B3 B4
  refine ⟨?_, rfl⟩
  first
    | (rw [B1, B2, B3, B4]; rfl)
    | (simp only [B1, B2, B3, B4])
end Go.Proofs.YtfcljcikajaedaaGreatDoor
