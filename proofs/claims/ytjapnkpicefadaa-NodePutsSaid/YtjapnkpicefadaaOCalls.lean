/- An opener's calls where what is asked for is there, and of no opener. -/
import Derived.Test.YtjapnkpicefadaaReadH
namespace Go.Proofs.Ytjapnkpicefadaa
open Go.RowKit

/-- A width that may be. -/
def wdB (n : Int) : Bool := n == 1 || n == 2 || n == 4 || n == 8
theorem wdB_nat {n : Nat} (h : wdB n = true) : n = 1 ∨ n = 2 ∨ n = 4 ∨ n = 8 := by
  simp [wdB] at h
  omega

set_option maxHeartbeats 400000 in
theorem isWidth_any (n : Int) (w : World) :
    Calls Try.prog 36 #[.int .i64 n] w fun e w' => e = .returned (.bool (wdB n)) ∧ w = w' := by
  go_enter Try.func36, Try.ntmps36
  go_wp2
  all_goals go_ret
  all_goals refine ⟨?_, rfl⟩
  all_goals (subst_vars; first | rfl | simp [wdB])

section
variable {G : Nat → Prop} {w : World} {b : Nat} {l : List UInt8}

set_option maxHeartbeats 400000 in
theorem take_fine (h : Opn G w b l none) (n : Nat) (hw : wdB n = true) (hn : n ≤ l.length) :
    Calls Try.prog 41 #[.pointer (some ⟨b, 0, none⟩), .int .i64 n] w fun e w' => e = .returned (.int .u64 (numN (l.take n))) ∧ Opn G w' b (l.drop n) none ∧ Kp (fun k => k = b) w w' := by
  have H := Lib.hid h
  have h8 : n ≤ 8 := by have := wdB_nat hw; omega
  clear h
  go_enter Try.func41, Try.ntmps41
  go_wp2_with fail
  refine (isWidth_any _ _).mono ?_
  rintro e w1 ⟨rfl, rfl⟩
  go_wp2_with fail
  refine (read_num_fine H.out n hn h8).mono ?_
  rintro e w1 ⟨rfl, ho, hk⟩
  have Ho := Lib.hid ho
  have Hk := Lib.hid hk
  clear ho hk
  go_wp2_with fail
  go_ret
  exact ⟨rfl, Ho.out, Hk.out⟩

set_option maxHeartbeats 400000 in
theorem take_nil (n : Int) (w : World) :
    Calls Try.prog 41 #[.pointer none, .int .i64 n] w fun e w' => e = .returned (.int .u64 0) ∧ Kp (fun _ => False) w w' := by
  rcases hw : wdB n with _ | _
  all_goals
    go_enter Try.func41, Try.ntmps41
    go_wp2_with fail
    refine (isWidth_any _ _).mono ?_
    rintro e w1 ⟨rfl, rfl⟩
    go_wp2_with fail
    refine (read_num_nil _ _).mono ?_
    rintro e w1 ⟨rfl, hk⟩
    have Hk := Lib.hid hk
    clear hk
    go_wp2_with fail
    go_ret
    exact ⟨rfl, Hk.out⟩

set_option maxHeartbeats 400000 in
theorem otext_fine (h : Opn G w b l none) (n : Nat) (hn : n ≤ l.length) :
    Calls Try.prog 42 #[.pointer (some ⟨b, 0, none⟩), .int .i64 n] w fun e w' => e = .returned (.string ⟨(l.take n).toArray⟩) ∧ Opn G w' b (l.drop n) none ∧ Kp (fun k => k = b) w w' := by
  have H := Lib.hid h
  clear h
  go_enter Try.func42, Try.ntmps42
  go_wp2_with fail
  refine (read_text_fine H.out n hn).mono ?_
  rintro e w1 ⟨rfl, ho, hk⟩
  have Ho := Lib.hid ho
  have Hk := Lib.hid hk
  clear ho hk
  go_wp2_with fail
  go_ret
  exact ⟨rfl, Ho.out, Hk.out⟩

set_option maxHeartbeats 400000 in
theorem otext_nil (n : Int) (w : World) :
    Calls Try.prog 42 #[.pointer none, .int .i64 n] w fun e w' => e = .returned (.string ⟨#[]⟩) ∧ Kp (fun _ => False) w w' := by
  go_enter Try.func42, Try.ntmps42
  go_wp2_with fail
  refine (read_text_nil _ _).mono ?_
  rintro e w1 ⟨rfl, hk⟩
  have Hk := Lib.hid hk
  clear hk
  go_wp2_with fail
  go_ret
  exact ⟨rfl, Hk.out⟩

end

end Go.Proofs.Ytjapnkpicefadaa
