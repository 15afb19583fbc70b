/- How many sheets a text takes: what Need answers. Condition: at most 2^47 bytes. -/
import Derived.Test.YtfcljcikajaedaaGreatDoorMg2
import Derived.Test.YtfcljcikajaedaaGreatDoorMg1
import Derived.Test.YtfcljcikajaedaaGreatDoorChecked
import Derived.IntWalk
namespace Go.Proofs.YtfcljcikajaedaaGreatDoor
open Go.RowKit

set_option maxHeartbeats 400000 in
theorem need_any (n : Nat) (w : World) (hn : n ≤ 140737488355328) :
    Calls Tryz.prog 45 #[.int .i64 n] w fun e w' => e = .returned (.int .i64 (need n : Nat)) ∧ w = w' := by
  have e : (need n : Int) = ((n - 1 : Nat) : Int) / 497 + 1 := by unfold need; omega
  rw [e]
  rcases Nat.eq_zero_or_pos n with rfl | hp
  · go_enter Tryz.func45, Tryz.ntmps45
    go_wp2_with fail
    go_ret
    exact ⟨rfl, rfl⟩
  · go_enter Tryz.func45, Tryz.ntmps45
    go_wp2_with fail
    go_ret
    have h1 : ((n - 1 : Nat) : Int) = (n : Int) - 1 := by omega
    rw [h1]
    first
    | exact ⟨rfl, rfl⟩
    | refine ⟨?_, rfl⟩
      show Ending.returned (.int .i64 ((max (n : Int) 1 - 1) / 497 + 1)) = _
      rw [show max (n : Int) 1 = (n : Int) by omega]
theorem need_less (n : Nat) (w : World) (hn : n ≤ 140737488355328) :
    Calls Tryz.prog 45 #[.int .i64 (-(n : Int))] w fun e w' => e = .returned (.int .i64 1) ∧ w = w' := by
  go_enter Tryz.func45, Tryz.ntmps45
  go_wp2_with fail
  go_ret
  first
  | exact ⟨rfl, rfl⟩
  | refine ⟨?_, rfl⟩
    show Ending.returned (.int .i64 ((max (-(n : Int)) 1 - 1) / 497 + 1)) = _
    rw [show max (-(n : Int)) 1 = 1 by omega]
    rfl
end Go.Proofs.YtfcljcikajaedaaGreatDoor
