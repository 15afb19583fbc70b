/- An opener's calls where what is asked for is there, and of no opener. -/
import Derived.Test.YtcgfnfejacgaeaaDoorReadH
namespace Go.Proofs.YtcgfnfejacgaeaaDoor
open Go.RowKit

/-- A width that may be. -/
def wdB (n : Int) : Bool := n == 1 || n == 2 || n == 4 || n == 8
theorem wdB_nat {n : Nat} (h : wdB n = true) : n = 1 ∨ n = 2 ∨ n = 4 ∨ n = 8 := by
  simp [wdB] at h
  omega

set_option maxHeartbeats 400000 in
theorem isWidth_any (n : Int) (w : World) :
    Calls Tryd.prog 36 #[.int .i64 n] w fun e w' => e = .returned (.bool (wdB n)) ∧ w = w' := by
  go_enter Tryd.func36, Tryd.ntmps36
  go_wp2
  all_goals go_ret
  all_goals refine ⟨?_, rfl⟩
  all_goals (subst_vars; first | rfl | simp [wdB])

section
variable {G : Nat → Prop} {w : World} {b : Nat} {l : List UInt8}

set_option maxHeartbeats 400000 in
theorem take_fine (h : Opn G w b l none) (n : Nat) (hw : wdB n = true) (hn : n ≤ l.length) :
    Calls Tryd.prog 20 #[.pointer (some ⟨b, 0, none⟩), .int .i64 n] w fun e w' => e = .returned (.int .u64 (numN (l.take n))) ∧ Opn G w' b (l.drop n) none ∧ Kp (fun k => k = b) w w' := by
  have H := Lib.hid h
  have h8 : n ≤ 8 := by have := wdB_nat hw; omega
  clear h
  go_enter Tryd.func20, Tryd.ntmps20
  go_wp2_with fail
  refine (isWidth_any _ _).mono ?_
  rintro e w1 ⟨rfl, rfl⟩
  go_wp2_with fail
  refine (read_num_fine H.out n hn h8).mono ?_
  rintro e w1 ⟨rfl, ho, hk⟩
  have Ho := Lib.hid ho
  have Hk := Lib.hid hk
  clear ho hk
  go_wp2_with fail
  go_ret
  exact ⟨rfl, Ho.out, Hk.out⟩

set_option maxHeartbeats 400000 in
theorem take_nil (n : Int) (w : World) :
    Calls Tryd.prog 20 #[.pointer none, .int .i64 n] w fun e w' => e = .returned (.int .u64 0) ∧ Kp (fun _ => False) w w' := by
  rcases hw : wdB n with _ | _
  all_goals
    go_enter Tryd.func20, Tryd.ntmps20
    go_wp2_with fail
    refine (isWidth_any _ _).mono ?_
    rintro e w1 ⟨rfl, rfl⟩
    go_wp2_with fail
    refine (read_num_nil _ _).mono ?_
    rintro e w1 ⟨rfl, hk⟩
    have Hk := Lib.hid hk
    clear hk
    go_wp2_with fail
    go_ret
    exact ⟨rfl, Hk.out⟩

set_option maxHeartbeats 400000 in
theorem otext_fine (h : Opn G w b l none) (n : Nat) (hn : n ≤ l.length) :
    Calls Tryd.prog 19 #[.pointer (some ⟨b, 0, none⟩), .int .i64 n] w fun e w' => e = .returned (.string ⟨(l.take n).toArray⟩) ∧ Opn G w' b (l.drop n) none ∧ Kp (fun k => k = b) w w' := by
  have H := Lib.hid h
  clear h
  go_enter Tryd.func19, Tryd.ntmps19
  go_wp2_with fail
  refine (read_text_fine H.out n hn).mono ?_
  rintro e w1 ⟨rfl, ho, hk⟩
  have Ho := Lib.hid ho
  have Hk := Lib.hid hk
  clear ho hk
  go_wp2_with fail
  go_ret
  exact ⟨rfl, Ho.out, Hk.out⟩

set_option maxHeartbeats 400000 in
theorem otext_nil (n : Int) (w : World) :
    Calls Tryd.prog 19 #[.pointer none, .int .i64 n] w fun e w' => e = .returned (.string ⟨#[]⟩) ∧ Kp (fun _ => False) w w' := by
  go_enter Tryd.func19, Tryd.ntmps19
  go_wp2_with fail
  refine (read_text_nil _ _).mono ?_
  rintro e w1 ⟨rfl, hk⟩
  have Hk := Lib.hid hk
  clear hk
  go_wp2_with fail
  go_ret
  exact ⟨rfl, Hk.out⟩

set_option maxHeartbeats 400000 in
theorem left_any {f : Option Int} (h : Opn G w b l f) :
    Calls Tryd.prog 42 #[.pointer (some ⟨b, 0, none⟩)] w fun e w' => e = .returned (.int .i64 l.length) ∧ w = w' := by
  obtain ⟨_, A, c, fv, hx, _, _, _, _, _⟩ := h
  have c0 := hx.cell 0
  simp at c0
  clear hx
  go_enter Tryd.func42, Tryd.ntmps42
  go_wp2_with fail
  go_ret
  exact ⟨rfl, rfl⟩

set_option maxHeartbeats 400000 in
theorem left_nil (w : World) :
    Calls Tryd.prog 42 #[.pointer none] w fun e w' => e = .returned (.int .i64 0) ∧ w = w' := by
  go_enter Tryd.func42, Tryd.ntmps42
  go_wp2_with fail
  go_ret
  exact ⟨rfl, rfl⟩

set_option maxHeartbeats 400000 in
theorem err_fine (h : Opn G w b l none) :
    Calls Tryd.prog 52 #[.pointer (some ⟨b, 0, none⟩)] w fun e w' => e = .returned (.int .i64 0) ∧ Opn G w' b l none ∧ Kp (fun k => k = b) w w' := by
  have H := Lib.hid h
  obtain ⟨_, A, c, fv, hx, _, _, _, _, h5⟩ := h
  cases h5
  go_enter Tryd.func52, Tryd.ntmps52
  go_wp2_with fail
  refine (reader_fine b w _ hx).mono ?_
  rintro e w1 ⟨rfl, rfl⟩
  clear hx
  go_wp2_with fail
  have hnx := next_fine H.out 0 (Nat.zero_le _)
  rw [show ((0 : Nat) : Int) = 0 from rfl] at hnx
  refine hnx.mono ?_
  rintro e w1 ⟨A1, c1, rfl, _, _, _, _, ho, hk⟩
  have Ho := Lib.hid ho
  have Hk := Lib.hid hk
  clear ho hk hnx
  go_wp2_with fail
  go_ret
  exact ⟨rfl, Ho.out, Hk.out⟩

set_option maxHeartbeats 400000 in
theorem err_nil (w : World) :
    Calls Tryd.prog 52 #[.pointer none] w fun e w' => e = .returned (.int .i64 1) ∧ Kp (fun _ => False) w w' := by
  go_enter Tryd.func52, Tryd.ntmps52
  go_wp2_with fail
  refine (reader_nil w).mono ?_
  rintro e w1 ⟨rfl, rfl⟩
  go_wp2_with fail
  refine (failing1 _ 0 1 _ (Box.new w 24 #[.int .i64 1])).mono ?_
  rintro e w1 ⟨rfl, q, rfl⟩
  go_wp2_with fail
  go_ret
  exact ⟨rfl, ((Kp.refl _ _).alloc _).drewN q⟩

set_option maxHeartbeats 400000 in
theorem ohash_fine (h : Opn G w b l none) (hn : 32 ≤ l.length) :
    Calls Tryd.prog 51 #[.pointer (some ⟨b, 0, none⟩)] w fun e w' => e = .returned (.agg (bcs (l.take 32)).toArray) ∧ Opn G w' b (l.drop 32) none ∧ Kp (fun k => k = b) w w' := by
  have hres : Tryd.f51.results = #[.cell 2 44] := by kernel_rfl
  have hlen : (l.take 32).length = 32 := by simp; omega
  have h1 := h.off
  have hlt : b < w.heap.size := by obtain ⟨_, _, _, _, hx, _⟩ := h; exact hx.lt
  have Hr := Lib.hid hres
  have Hl := Lib.hid hlen
  clear hres h hlen
  go_enter Tryd.func51, Tryd.ntmps51
  go_wp2_with fail
  rw [zero_bcs] at h1 ⊢
  refine (read_hash_fine h1 hn).mono ?_
  rintro e w1 ⟨rfl, ho, hk⟩
  have Hg := Lib.hid ((Box.new w 44 (bcs zeros32).toArray).kp hk (by omega))
  have Ho := Lib.hid ho
  have Hk := Lib.hid hk
  clear ho hk h1
  go_wp2_with (refine wpList_store_row rfl 44 (.tmp 2) (.tmp 4) rfl w.heap.size (bcs (l.take 32)).toArray rfl rfl 44 (bcs zeros32).toArray Hg.out ?c1 ?c2 (bcs_all _) ?_)
  case c1 => rw [List.size_toArray, bcs_length, Hl.out]; exact info_hash
  case c2 => simp only [List.size_toArray, bcs_length, Hl.out, zeros32_length]
  refine bodyPost_ret (v := .agg (bcs (l.take 32)).toArray) ?_ rfl ⟨rfl, ?_, ?_⟩
  · exact results_cell_row Hr.out _ _ w.heap.size 44 _ (0, 0) _ rfl (Hg.out.setRow _) Tryd.underlying44 rfl (by rw [List.size_toArray, bcs_length, Hl.out]; exact info_hash)
  · exact Ho.out.on ((Kp.refl (fun k => k = w.heap.size) w1).setRow (.inr rfl) _)
  · have k1 : Kp (fun k => k = b) w w1 := ((Kp.refl _ _).alloc _).trans Hk.out
    exact k1.setRow (.inl (Nat.le_refl _)) _

set_option maxHeartbeats 400000 in
theorem ohash_nil (w : World) :
    Calls Tryd.prog 51 #[.pointer none] w fun e w' => e = .returned (.agg (bcs zeros32).toArray) ∧ Kp (fun _ => False) w w' := by
  have hres : Tryd.f51.results = #[.cell 2 44] := by kernel_rfl
  have Hr := Lib.hid hres
  clear hres
  go_enter Tryd.func51, Tryd.ntmps51
  go_wp2_with fail
  rw [zero_bcs]
  refine (read_hash_nil _).mono ?_
  rintro e w1 ⟨rfl, hk⟩
  have Hg := Lib.hid ((Box.new w 44 (bcs zeros32).toArray).kp hk (fun h => h))
  have Hk := Lib.hid hk
  clear hk
  go_wp2_with (refine wpList_store_row rfl 44 (.tmp 2) (.tmp 4) rfl w.heap.size (bcs zeros32).toArray rfl rfl 44 (bcs zeros32).toArray Hg.out ?c1 rfl (bcs_all _) ?_)
  case c1 => exact info_hash
  refine bodyPost_ret (v := .agg (bcs zeros32).toArray) ?_ rfl ⟨rfl, ?_⟩
  · exact results_cell_row Hr.out _ _ w.heap.size 44 _ (0, 0) _ rfl (Hg.out.setRow _) Tryd.underlying44 rfl info_hash
  · have k1 : Kp (fun _ => False) w w1 := ((Kp.refl _ _).alloc _).trans Hk.out
    exact k1.setRow (.inl (Nat.le_refl _)) _

end

end Go.Proofs.YtcgfnfejacgaeaaDoor
