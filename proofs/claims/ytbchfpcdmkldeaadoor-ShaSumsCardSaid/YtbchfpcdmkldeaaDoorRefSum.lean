/- The reference's sum: what the reference answers of any text. Condition: at most 2^32 bytes. -/
import Derived.Test.YtbchfpcdmkldeaaDoorRefWith
import Derived.Test.YtbchfpcdmkldeaaDoorRefBlk
namespace Go.Proofs.YtbchfpcdmkldeaaDoor
open Go.RowKit

set_option maxHeartbeats 4000000 in
set_option maxRecDepth 100000 in
theorem refsum_any (l : List UInt8) (w : World) (hl : l.length ≤ 4294967296) :
    Calls Tryd.prog 7 #[.string ⟨l.toArray⟩] w fun e w' => e = .returned (.agg (hCells (hashZ (shaZ l))).toArray) ∧ Kp (fun _ => False) w w' := by
  have Hr : Hid (Tryd.f7.results = #[.cell 2 25]) := Lib.hid (by kernel_rfl)
  have htab := tables_any
  have hwith := fun v => with_any l v hl (fun w => blocks_any l w hl)
  generalize (t72 tabN).toArray = TT at *
  have Htab := Lib.hid htab
  have Hwith := Lib.hid hwith
  have hone := hCells_one (hashZ (shaZ l))
  have hlen := hCells_length (hashZ (shaZ l))
  obtain ⟨HC, hHC⟩ : ∃ HC, hCells (hashZ (shaZ l)) = HC := ⟨_, rfl⟩
  rw [hHC] at hone hlen Hwith
  have HHC := Lib.hid hHC
  have Hone := Lib.hid hone
  have Hlen := Lib.hid hlen
  clear htab hwith hone hlen hHC
  go_enter Tryd.func7, Tryd.ntmps7
  go_wp2_with fail
  have hb0 := Box.new w 25 zero32.toArray
  have k0 := (Kp.refl (fun _ => False) w).alloc (.cells zero32.toArray 25)
  unfold zero32 at hb0 k0
  generalize w.alloc (.cells [Value.int .u8 0, .int .u8 0, .int .u8 0, .int .u8 0, .int .u8 0, .int .u8 0, .int .u8 0, .int .u8 0, .int .u8 0, .int .u8 0, .int .u8 0, .int .u8 0, .int .u8 0, .int .u8 0, .int .u8 0, .int .u8 0, .int .u8 0, .int .u8 0, .int .u8 0, .int .u8 0, .int .u8 0, .int .u8 0, .int .u8 0, .int .u8 0, .int .u8 0, .int .u8 0, .int .u8 0, .int .u8 0, .int .u8 0, .int .u8 0, .int .u8 0, .int .u8 0].toArray 25) = W0 at *
  have B0 := Lib.hid hb0
  have K0 := Lib.hid k0
  clear hb0 k0
  refine (Htab.out W0).mono ?_
  rintro e y1 ⟨rfl, k1⟩
  have B1 := Lib.hid (B0.out.kp k1 (fun h => h))
  have K1 := Lib.hid (K0.out.trans k1)
  clear k1
  go_wp2_with fail
  refine (Hwith.out y1).mono ?_
  rintro e y2 ⟨rfl, k2⟩
  have B2 := Lib.hid (B1.out.kp k2 (fun h => h))
  have K2 := Lib.hid (K1.out.trans k2)
  have hbw := Lib.hid (B2.out.write (vs := HC) (by rw [Hlen.out]; rfl))
  have hkw := Lib.hid (Kp.setCells (g := w.heap.size) HC 0 _ K2.out (.inl (Nat.le_refl _)))
  clear k2
  go_wp2_with (refine wpList_store_mid rfl _ (.tmp 2) (.tmp 5) rfl w.heap.size 0 HC.toArray rfl rfl ?c1 ?c2 ?c3 ?_)
  case c1 => rw [show HC.toArray.size = 32 by rw [List.size_toArray, Hlen.out]]; exact B2.out.there
  case c2 => rw [show HC.toArray.size = 32 by rw [List.size_toArray, Hlen.out]]; exact infoA32
  case c3 => exact all_oneCell_toArray Hone.out
  refine bodyPost_ret (v := .agg HC.toArray) ?_ rfl ⟨by rw [HHC.out], hkw.out⟩
  exact results_cell_row Hr.out _ _ w.heap.size _ _ (0, 0) _ rfl hbw.out Tryd.underlying25 rfl (by rw [show HC.toArray.size = 32 by rw [List.size_toArray, Hlen.out]]; kernel_rfl)
end Go.Proofs.YtbchfpcdmkldeaaDoor
