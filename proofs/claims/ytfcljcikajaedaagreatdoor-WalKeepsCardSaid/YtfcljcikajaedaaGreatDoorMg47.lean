/- What was committed stays: the law, whatever comes in. No condition. -/
import Derived.Test.YtfcljcikajaedaaGreatDoorMg46
namespace Go.Proofs.YtfcljcikajaedaaGreatDoor
open Go.RowKit Go.Maps

set_option maxRecDepth 100000 in
set_option maxHeartbeats 2000000 in
theorem wkeeps_walk (a0 : Int) (h0 : 0 ≤ a0) (h1 : a0 ≤ 255) (A : Option Addr) (l : List Aw) (c : Nat) (w : World) (h : Aws w w.heap.size A l) (hc : l.length ≤ c) (hm : c ≤ maxLen) (ht : Tbl w) :
    Calls Tryz.prog 4 #[.int .u8 a0, .slice A l.length c] w fun e w' => e = .returned (.bool true) ∧ Kp (fun k => w.heap.size ≤ k) w w' := by
  have hgr := greatw_any h c hc hm
  have fin : ∀ {v v' : World}, Kp (fun _ => False) v v' → Kp (fun k => v.heap.size ≤ k) v v' := fun hk => hk.of_false
  by_cases hg : greatW l = true
  · rw [hg] at hgr
    clear h hg hm hc
    go_enter Tryz.func4, Tryz.ntmps4
    go_wp2_with fail
    refine hgr.mono ?_
    rintro e w' ⟨rfl, rfl⟩
    go_wp2_with fail
    refine (wakes_true _ ht).mono ?_
    rintro e w9 ⟨rfl, k9⟩
    have K9 := Lib.hid k9
    clear k9
    go_wp2_with fail
    go_ret
    exact ⟨rfl, fin K9.out⟩
  · have hg' : greatW l = false := Bool.eq_false_iff.2 hg
    by_cases hn : 98 ≤ a0 ∧ a0 ≤ 160
    · obtain ⟨n, rfl⟩ := Int.eq_ofNat_of_zero_le h0
      exact keeps_main n (by omega) (by omega) A l c w h hc hm hg' ht
    · rw [hg'] at hgr
      clear h hg hg' hm hc
      by_cases h2 : a0 < 98
      · clear hn
        go_enter Tryz.func4, Tryz.ntmps4
        go_wp2_with fail
        refine hgr.mono ?_
        rintro e w' ⟨rfl, rfl⟩
        go_wp2_with fail
        refine (wakes_true _ ht).mono ?_
        rintro e w9 ⟨rfl, k9⟩
        have K9 := Lib.hid k9
        clear k9
        go_wp2_with fail
        go_ret
        exact ⟨rfl, fin K9.out⟩
      · have h3 : 160 < a0 := by omega
        clear hn
        go_enter Tryz.func4, Tryz.ntmps4
        go_wp2_with fail
        refine hgr.mono ?_
        rintro e w' ⟨rfl, rfl⟩
        go_wp2_with fail
        refine (wakes_true _ ht).mono ?_
        rintro e w9 ⟨rfl, k9⟩
        have K9 := Lib.hid k9
        clear k9
        go_wp2_with fail
        go_ret
        exact ⟨rfl, fin K9.out⟩
end Go.Proofs.YtfcljcikajaedaaGreatDoor
