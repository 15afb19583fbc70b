/- The law CrcSums: whatever the bytes and the number, it answers true, and nothing that was there is turned. Condition: the table of half bytes reads as the program's text lays it. -/
import Derived.Test.YtjlijaiihnjibaaDoorCrcWake
namespace Go.Proofs.YtjlijaiihnjibaaDoor
open Go.RowKit

theorem int_eq_self (a : Int) : (a == a) = true := by simp
set_option maxHeartbeats 400000 in
theorem sums_walk (A : Option Addr) (l : List UInt8) (c n : Nat) (w : World) (hl : l.length ≤ c) (hm : c ≤ maxLen) (hr : Rd w A l) (ht : Tbl w) :
    Calls Tryd.prog 3 #[.slice A l.length c, .int .u32 n] w fun e w' => e = .returned (.bool true) ∧ Kp (fun _ => False) w w' := by
  have Hr := Lib.hid hr
  have Ht := Lib.hid ht
  clear hr ht
  have Hm := Lib.hid hm
  unfold maxLen at hm
  by_cases h3 : 3000 < l.length
  · go_enter Tryd.func3, Tryd.ntmps3
    go_wp2_with fail
    refine (wakes_true w Ht.out).mono ?_
    rintro e w' ⟨rfl, k⟩
    have K := Lib.hid k
    clear k
    go_wp2_with fail
    go_ret
    exact ⟨rfl, K.out⟩
  · have kt := Hr.out.text 22 9 5 c Tryd.underlying22 Tryd.underlying5 Tryd.underlying9
    have H3 : Hid (l.toArray.size ≤ 3000) := Lib.hid (by simp; omega)
    have hcl := crcN_lt l
    have hrf := Lib.hid (ref_any ⟨l.toArray⟩ w (by exact H3.out))
    have hsu := Lib.hid (sum_any A l c w hl Hm.out Hr.out Ht.out)
    have hok := Lib.hid (fun n => ok_any A l c n w hl Hm.out Hr.out Ht.out)
    generalize crcN l = v at *
    go_enter Tryd.func3, Tryd.ntmps3
    go_wp2_with fail
    refine (hrf.out).mono ?_
    rintro e w' ⟨rfl, rfl⟩
    go_wp2_with fail
    refine (hsu.out).mono ?_
    rintro e w' ⟨rfl, rfl⟩
    go_wp2_with fail
    refine (hok.out v).mono ?_
    rintro e w' ⟨rfl, rfl⟩
    have hvv : decide (v = v) = true := by simp
    rw [hvv]
    clear hvv
    go_wp2_with fail
    refine (hok.out n).mono ?_
    rintro e w' ⟨rfl, rfl⟩
    have hq := int_eq n v
    go_wp2_with fail
    refine (wakes_true w Ht.out).mono ?_
    rintro e w' ⟨rfl, k⟩
    have K := Lib.hid k
    clear k
    go_wp2_with fail
    go_ret
    exact ⟨rfl, K.out⟩
end Go.Proofs.YtjlijaiihnjibaaDoor
