/- The small functions of SHA-256: a turn to the right, by a few numbers of bits; the two sums of a block's words. No condition. -/
import Derived.Test.YtbchfpcdmkldeaaDoorShaDefs
import Derived.Test.YtbchfpcdmkldeaaDoorMem2
import Derived.Test.YtbchfpcdmkldeaaDoorChecked
import Derived.IntWalk
import Derived.Laws.ShiftsVarLaws
namespace Go.Proofs.YtbchfpcdmkldeaaDoor
open Go.RowKit

set_option maxHeartbeats 4000000 in
theorem refrot_any (x : Int) (n : Nat) (w : World) (h : n ∈ turns) :
    Calls Tryd.prog 22 #[.int .u32 x, .int .i64 n] w fun e w' => e = .returned (.int .u32 (rotZ x n)) ∧ ∃ q, w' = w.drewN q := by
  simp only [turns, List.mem_cons, List.not_mem_nil, or_false] at h
  rcases h with rfl | rfl | rfl | rfl | rfl | rfl | rfl | rfl | rfl | rfl
  all_goals
    go_enter Tryd.func22, Tryd.ntmps22
    go_wp2_with fail
    go_quiet (fail)
    go_wp2_with fail
    go_ret
    exact ⟨by rw [rotZ, bits_or_comm]; rfl, _, rfl⟩

set_option maxHeartbeats 400000 in
theorem rotl_any (x : Int) (n : Nat) (w : World) (h1 : 1 ≤ n) (h2 : n ≤ 31) :
    Calls Tryd.prog 25 #[.int .u32 x, .int .i64 (-n)] w fun e w' => e = .returned (.int .u32 (rotZ x n)) ∧ w' = w := by
  have h3 : bits .and .u64 (IntKind.u64.wrap (-(n : Int))) 31 = ((32 - n : Nat) : Int) := by
    have h : ∀ k : Fin 32, bits .and .u64 (IntKind.u64.wrap (-((k.val : Nat) : Int))) 31 = (((32 - k.val) % 32 : Nat) : Int) := by decide +kernel
    have := h ⟨n, by omega⟩
    simp only at this
    rw [this]
    congr 1
    omega
  have h4 := Lib.hid (show 32 - (32 - n) = n by omega)
  go_enter Tryd.func25, Tryd.ntmps25
  go_wp2_with fail
  go_ret
  refine ⟨?_, rfl⟩
  show Ending.returned (.int .u32 (bits .or .u32 (x * 2 ^ (32 - n) % 4294967296) (x / 2 ^ (32 - (32 - n))))) = _
  rw [h4.out]
  rfl

set_option maxHeartbeats 400000 in
theorem rotr_any (x : Int) (n : Nat) (w : World) (h : n ∈ turns) :
    Calls Tryd.prog 19 #[.int .u32 x, .int .i64 n] w fun e w' => e = .returned (.int .u32 (rotZ x n)) ∧ w' = w := by
  have hb : 1 ≤ n ∧ n ≤ 31 := by
    simp only [turns, List.mem_cons, List.not_mem_nil, or_false] at h
    omega
  have hw : IntKind.i64.wrap (-(n : Int)) = -n := IntWalk.i64_in _ (by omega)
  have hr := Lib.hid (rotl_any x n w hb.1 hb.2)
  go_enter Tryd.func19, Tryd.ntmps19
  go_wp2_with fail
  refine (hr.out).mono ?_
  rintro e w' ⟨rfl, rfl⟩
  go_wp2_with fail
  go_ret
  exact ⟨rfl, rfl⟩

theorem rotr_z (x z : Int) (w : World) (h : z = (z.toNat : Int) ∧ z.toNat ∈ turns) :
    Calls Tryd.prog 19 #[.int .u32 x, .int .i64 z] w fun e w' => e = .returned (.int .u32 (rotZ x z.toNat)) ∧ w' = w := by
  have := rotr_any x z.toNat w h.2
  rwa [← h.1] at this
theorem refrot_z (x z : Int) (w : World) (h : z = (z.toNat : Int) ∧ z.toNat ∈ turns) :
    Calls Tryd.prog 22 #[.int .u32 x, .int .i64 z] w fun e w' => e = .returned (.int .u32 (rotZ x z.toNat)) ∧ ∃ q, w' = w.drewN q := by
  have := refrot_any x z.toNat w h.2
  rwa [← h.1] at this

set_option maxHeartbeats 400000 in
theorem s0_any (x : Int) (w : World) :
    Calls Tryd.prog 17 #[.int .u32 x] w fun e w' => e = .returned (.int .u32 (s0Z x)) ∧ w' = w := by
  go_enter Tryd.func17, Tryd.ntmps17
  go_wp2_with fail
  refine (rotr_any x 7 w (by decide)).mono ?_
  rintro e w' ⟨rfl, rfl⟩
  go_wp2_with fail
  refine (rotr_any x 18 w' (by decide)).mono ?_
  rintro e w' ⟨rfl, rfl⟩
  go_wp2_with fail
  go_ret
  exact ⟨rfl, rfl⟩
set_option maxHeartbeats 400000 in
theorem s1_any (x : Int) (w : World) :
    Calls Tryd.prog 18 #[.int .u32 x] w fun e w' => e = .returned (.int .u32 (s1Z x)) ∧ w' = w := by
  go_enter Tryd.func18, Tryd.ntmps18
  go_wp2_with fail
  refine (rotr_any x 17 w (by decide)).mono ?_
  rintro e w' ⟨rfl, rfl⟩
  go_wp2_with fail
  refine (rotr_any x 19 w' (by decide)).mono ?_
  rintro e w' ⟨rfl, rfl⟩
  go_wp2_with fail
  go_ret
  exact ⟨rfl, rfl⟩
end Go.Proofs.YtbchfpcdmkldeaaDoor
