/- What an opener's calls answer: Take, Hash, Text, Name, Left, Err, End, in every state. -/
import Derived.Test.YtcgfnfejacgaeaaDoorOpnr
import Derived.Test.YtcgfnfejacgaeaaDoorNum
namespace Go.Proofs.YtcgfnfejacgaeaaDoor
open Go.RowKit

set_option maxHeartbeats 400000 in
theorem number_any (b o : Nat) (c : Nat) (l : List UInt8) (w : World) (hl : l.length ≤ 8)
   (hc : ∀ j u, l[j]? = some u → w.cell? ⟨b, o + j, none⟩ = some (.int .u8 u.toNat)) :
    Calls Tryd.prog 38 #[.slice (some ⟨b, o, none⟩) l.length c] w fun e w' => e = .returned (.int .u64 (numN l)) ∧ w = w' := by
  have hc' := Lib.hid hc
  clear hc
  go_enter Tryd.func38, Tryd.ntmps38
  go_wp2
  go_loop [3, 8] (fun n i => ∃ k : Nat, k ≤ l.length ∧ i = .int .i64 k ∧ n = .int .u64 (numN (l.take k))) (fun _ i => l.length - (intOf i).toNat)
  case atStart => exact ⟨0, Nat.zero_le _, rfl, rfl⟩
  case round =>
    obtain ⟨k, hk, rfl, rfl⟩ := hrel
    by_cases hlt : k < l.length
    · have hx := hc'.out k l[k] (List.getElem?_eq_getElem hlt)
      go_wp2
      go_round
      case rel =>
        have h1 := numN_lt8 (l.take (k + 1)) (by simp; omega)
        have h2 := numN_take l k hlt
        have h3 := l[k].toNat_lt
        have h4 : numN (l.take k) * 256 + 256 ≤ 18446744073709551616 := by
          have h5 := numN_lt (l.take k)
          have h6 : (l.take k).length ≤ 7 := by simp; omega
          have h7 : 256 ^ (l.take k).length ≤ 256 ^ 7 := Nat.pow_le_pow_right (by omega) h6
          have h8 : 256 ^ 7 * 256 = 18446744073709551616 := by decide
          omega
        exact ⟨k + 1, by omega, by go_num, by rw [or_step _ _ h4 h3, h2]⟩
      case measure => simp [intOf]; omega
    · go_wp2
      go_ret
      exact ⟨by
        rw [List.take_of_length_le (by omega)]
        rfl, rfl⟩

set_option maxHeartbeats 400000 in
theorem number_nil (A : Option Addr) (c : Nat) (w : World) :
    Calls Tryd.prog 38 #[.slice A 0 c] w fun e w' => e = .returned (.int .u64 0) ∧ w = w' := by
  go_enter Tryd.func38, Tryd.ntmps38
  go_wp2
  refine wp_loop_rounds 1 ?_
  rw [rounds_succ]
  go_wp2
  go_ret
  exact ⟨rfl, rfl⟩

theorem number_rd (A : Option Addr) (c : Nat) (l : List UInt8) (w : World) (hl : l.length ≤ 8) (h : Rd w A l) :
    Calls Tryd.prog 38 #[.slice A l.length c] w fun e w' => e = .returned (.int .u64 (numN l)) ∧ w = w' := by
  rcases h with rfl | ⟨b, o, rfl, hc⟩
  · exact number_nil A c w
  · exact number_any b o c l w hl hc

end Go.Proofs.YtcgfnfejacgaeaaDoor
