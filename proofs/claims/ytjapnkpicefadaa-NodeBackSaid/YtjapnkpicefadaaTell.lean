/- Arrays of 32 bytes by value, and what the opener's three readers tell. -/
import Derived.Test.YtjapnkpicefadaaTake
import Derived.Deep.MidRow
import Derived.Deep.WholeRow
namespace Go.Proofs.Ytjapnkpicefadaa
open Go.RowKit

theorem bcs_all (l : List UInt8) : (bcs l).toArray.all (·.oneCell') = true := all_oneCell_toArray (bcs_one l)
theorem Rd.range {w : World} {b o : Nat} {l : List UInt8} (hc : ∀ j u, l[j]? = some u → w.cell? ⟨b, o + j, none⟩ = some (.int .u8 u.toNat)) : w.rangeAt b o (bcs l) := by
  intro j v hj
  rw [bcs_get] at hj
  obtain ⟨u, hu, rfl⟩ := Option.map_eq_some_iff.1 hj
  exact hc j u hu
set_option maxHeartbeats 400000 in
theorem text1_rd (A : Option Addr) (c : Nat) (l : List UInt8) (w : World) (h : Rd w A l) :
    Calls Try.prog 51 #[.slice A l.length c] w fun e w' => e = .returned (.string ⟨l.toArray⟩) ∧ w = w' := by
  have hcv := h.text 32 9 5 c Try.underlying32 Try.underlying5 Try.underlying9
  go_enter Try.func51, Try.ntmps51
  go_wp2
  go_ret
  exact ⟨rfl, rfl⟩

end Go.Proofs.Ytjapnkpicefadaa
