/- What both laws ask besides: the hashes of 'abc' and of the empty text. Condition: the two tables read as the program's text lays them. -/
import Derived.Test.YtbchfpcdmkldeaaDoorShaShort
namespace Go.Proofs.YtbchfpcdmkldeaaDoor
open Go.RowKit

set_option maxHeartbeats 4000000 in
set_option maxRecDepth 100000 in
theorem wakes_true (w : World) (ht : Tbls w) :
    Calls Tryd.prog 5 #[] w fun e w' => e = .returned (.bool true) ∧ Kp (fun _ => False) w w' := by
  have Ht := Lib.hid ht
  clear ht
  go_enter Tryd.func5, Tryd.ntmps5
  go_wp2_with fail
  refine (known_true ⟨#[97, 98, 99]⟩ ⟨#[186, 120, 22, 191, 143, 1, 207, 234, 65, 65, 64, 222, 93, 174, 34, 35, 176, 3, 97, 163, 150, 23, 122, 156, 180, 16, 255, 97, 242, 0, 21, 173]⟩ w (by decide) Ht.out abc_hw).mono ?_
  rintro e w1 ⟨rfl, k1⟩
  have Ht1 := Lib.hid (Ht.out.kp k1 (fun h => h) (fun h => h))
  have K1 := Lib.hid k1
  clear k1
  go_wp2_with fail
  refine (known_true ⟨#[]⟩ ⟨#[227, 176, 196, 66, 152, 252, 28, 20, 154, 251, 244, 200, 153, 111, 185, 36, 39, 174, 65, 228, 100, 155, 147, 76, 164, 149, 153, 27, 120, 82, 184, 85]⟩ w1 (by decide) Ht1.out nil_hw).mono ?_
  rintro e w2 ⟨rfl, k2⟩
  have K2 := Lib.hid (K1.out.trans k2)
  clear k2
  go_wp2_with fail
  go_ret
  exact ⟨rfl, K2.out⟩
end Go.Proofs.YtbchfpcdmkldeaaDoor
