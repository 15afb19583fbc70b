/- Any acts: the law, whatever comes in. No condition. -/
import Derived.Test.YtbdiebkfkmjjiaaDkPlay
namespace Go.Proofs.Ytbdiebkfkmjjiaa
open Go.RowKit Go.Maps

set_option maxRecDepth 100000 in
set_option maxHeartbeats 2000000 in
theorem plays_walk (a0 : Int) (A : Option Addr) (l : List Ac) (c : Nat) (w : World) (h : Acs w w.heap.size A l) (hc : l.length ≤ c) (hm : c ≤ maxLen) :
    Calls Try.prog 3 #[.int .i64 a0, .slice A l.length c] w fun e w' => e = .returned (.bool true) ∧ Kp (fun k => w.heap.size ≤ k) w w' := by
  have hgr := great_any h c hc hm
  have fin : ∀ {v v' : World}, Kp (fun _ => False) v v' → Kp (fun k => v.heap.size ≤ k) v v' := fun hk => hk.of_false
  by_cases hg : greatA l = true
  · rw [hg] at hgr
    clear h hg hm hc
    go_enter Try.func3, Try.ntmps3
    go_wp2_with fail
    refine hgr.mono ?_
    rintro e w' ⟨rfl, rfl⟩
    clear hgr
    go_wp2_with fail
    refine (wakes_true _).mono ?_
    rintro e w9 ⟨rfl, k9⟩
    have K9 := Lib.hid k9
    clear k9
    go_wp2_with fail
    go_ret
    exact ⟨rfl, fin K9.out⟩
  · have hg' : greatA l = false := Bool.eq_false_iff.2 hg
    by_cases hn : 1 ≤ a0 ∧ a0 ≤ 30
    · obtain ⟨n, rfl⟩ := Int.eq_ofNat_of_zero_le (show (0 : Int) ≤ a0 by omega)
      exact plays_main n (by omega) (by omega) A l c w h hc hm hg'
    · rw [hg'] at hgr
      clear h hg hg' hm hc
      by_cases h2 : a0 < 1
      · have hna := new_arg a0 (.inl h2) w
        have h30 : ¬ (30 < a0) := by omega
        clear hn
        go_enter Try.func3, Try.ntmps3
        go_wp2_with fail
        refine hgr.mono ?_
        rintro e w' ⟨rfl, rfl⟩
        clear hgr
        go_wp2_with fail
        refine hna.mono ?_
        rintro e w' ⟨rfl, rfl⟩
        clear hna
        go_wp2_with fail
        refine (wakes_true _).mono ?_
        rintro e w9 ⟨rfl, k9⟩
        have K9 := Lib.hid k9
        clear k9
        go_wp2_with fail
        go_ret
        exact ⟨rfl, fin K9.out⟩
      · have h30 : 30 < a0 := by omega
        clear hn
        by_cases h4 : a0 ≤ 4096
        · clear h2
          go_enter Try.func3, Try.ntmps3
          go_wp2_with fail
          refine hgr.mono ?_
          rintro e w' ⟨rfl, rfl⟩
          clear hgr
          go_wp2_with fail
          refine (wakes_true _).mono ?_
          rintro e w9 ⟨rfl, k9⟩
          have K9 := Lib.hid k9
          clear k9
          go_wp2_with fail
          go_ret
          exact ⟨rfl, fin K9.out⟩
        · have hna := new_arg a0 (.inr (by omega)) w
          have h5 : 4096 < a0 := by omega
          clear h4
          go_enter Try.func3, Try.ntmps3
          go_wp2_with fail
          refine hgr.mono ?_
          rintro e w' ⟨rfl, rfl⟩
          clear hgr
          go_wp2_with fail
          refine hna.mono ?_
          rintro e w' ⟨rfl, rfl⟩
          clear hna
          go_wp2_with fail
          refine (wakes_true _).mono ?_
          rintro e w9 ⟨rfl, k9⟩
          have K9 := Lib.hid k9
          clear k9
          go_wp2_with fail
          go_ret
          exact ⟨rfl, fin K9.out⟩
end Go.Proofs.Ytbdiebkfkmjjiaa
