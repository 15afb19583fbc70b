/- The law of the sums, walked: of any bytes the program and the reference answer the same. Condition: the two tables read as the program's text lays them. -/
import Derived.Test.YtbchfpcdmkldeaaDoorRefSum
import Derived.Test.YtbchfpcdmkldeaaDoorShaWake
import Derived.StillTailTactics
namespace Go.Proofs.YtbchfpcdmkldeaaDoor
open Go.RowKit

set_option maxHeartbeats 4000000 in
set_option maxRecDepth 100000 in
theorem sums_walk (A : Option Addr) (l : List UInt8) (c : Nat) (w : World) (hl : l.length ≤ c) (hr : Rd w A l) (ht : Tbls w) :
    Calls Tryd.prog 3 #[.slice A l.length c] w fun e w' => e = .returned (.bool true) ∧ Kp (fun _ => False) w w' := by
  have Hr := Lib.hid hr
  have Ht := Lib.hid ht
  clear hr ht
  go_enter Tryd.func3, Tryd.ntmps3
  by_cases hs : (l.length : Int) ≤ 1000
  · have hlm : l.length ≤ 4294967296 := by omega
    have hsA := Lib.hid (fun v (hv : Kp (fun _ => False) w v) => sum_any A l c v hl hlm (Hr.out.kp hv (fun _ _ h => h)) (Ht.out.kp hv (fun h => h) (fun h => h)))
    have hsB := Lib.hid (fun v => refsum_any l v hlm)
    have hsW := Lib.hid (fun v (hv : Kp (fun _ => False) w v) => wakes_true v (Ht.out.kp hv (fun h => h) (fun h => h)))
    have heq : ∀ w, (Op.equalIn 10000 25 (.agg (hCells (hashZ (shaZ l))).toArray) (.agg (hCells (hashZ (shaZ l))).toArray)).run Tryd.prog w = .ok true w := fun w => by rw [hash_eqs]; simp
    have Htx := Lib.hid (fun v (hv : Kp (fun _ => False) w v) => (Hr.out.kp hv (fun _ _ h => h)).text 22 9 5 c Tryd.underlying22 Tryd.underlying5 Tryd.underlying9)
    generalize hCells (hashZ (shaZ l)) = HC at *
    go_wp2_with fail
    refine wp_region_quiet (C := fun v => Kp (fun _ => False) w v) (by kernel_rfl) (by kernel_rfl) ((Kp.refl _ w).drew) ?_
    refine wpQuiet_step (fun K hK => ?_)
    go_simp
    refine ⟨_, fun v hv => rfl, hK _ ?_⟩
    clear hK K
    refine wpQuiet_step (fun K hK => ?_)
    go_simp
    refine ⟨_, fun v hv => (hsA.out v hv).mono (fun e w'' h => ⟨h.1, hv.trans h.2⟩), hK _ ?_⟩
    clear hK K
    refine wpQuiet_step (fun K hK => ?_)
    go_simp
    refine ⟨_, fun v hv => rfl, hK _ ?_⟩
    clear hK K
    refine wpQuiet_step (fun K hK => ?_)
    go_simp
    refine ⟨.string ⟨l.toArray⟩, fun v hv => by rw [Htx.out v hv]; exact ⟨rfl, rfl⟩, hK _ ?_⟩
    clear hK K
    refine wpQuiet_step (fun K hK => ?_)
    go_simp
    refine ⟨_, fun v hv => (hsB.out v).mono (fun e w'' h => ⟨h.1, hv.trans h.2⟩), hK _ ?_⟩
    clear hK K
    refine wpQuiet_step (fun K hK => ?_)
    go_simp
    refine ⟨_, fun v hv => rfl, hK _ ?_⟩
    clear hK K
    refine wpQuiet_step (fun K hK => ?_)
    go_simp
    refine ⟨_, fun v hv => rfl, hK _ ?_⟩
    clear hK K
    refine wpQuiet_step (fun K hK => ?_)
    go_simp
    refine ⟨_, fun v hv => (hsW.out v hv).mono (fun e w'' h => ⟨h.1, hv.trans h.2⟩), hK _ ?_⟩
    clear hK K
    refine wpQuiet_step (fun K hK => ?_)
    go_simp
    refine ⟨_, fun v hv => rfl, hK _ ?_⟩
    clear hK K
    refine wpQuiet_step (fun K hK => ?_)
    go_simp
    refine ⟨_, fun v hv => rfl, hK _ ?_⟩
    clear hK K
    refine wpQuiet_nil ?_
    intro w8 hw8
    have Hk8 := Lib.hid hw8
    clear hw8 heq
    go_wp2_with fail
    go_ret
    exact ⟨rfl, Hk8.out⟩
  · go_wp2_with fail
    refine (wakes_true w Ht.out).mono ?_
    rintro e w1 ⟨rfl, k1⟩
    have K1 := Lib.hid k1
    clear k1
    go_wp2_with fail
    go_ret
    exact ⟨rfl, K1.out⟩
end Go.Proofs.YtbchfpcdmkldeaaDoor
