/- Arrays of 32 bytes by value, and what the opener's three readers tell. -/
import Derived.Test.YtcgfnfejacgaeaaDoorTake
import Derived.Deep.MidRow
import Derived.Deep.WholeRow
namespace Go.Proofs.YtcgfnfejacgaeaaDoor
open Go.RowKit

theorem bcs_all (l : List UInt8) : (bcs l).toArray.all (·.oneCell') = true := all_oneCell_toArray (bcs_one l)
theorem info_hash : (Tryd.prog.info? 44).map (·.size) = some 32 := by kernel_rfl
theorem Rd.range {w : World} {b o : Nat} {l : List UInt8} (hc : ∀ j u, l[j]? = some u → w.cell? ⟨b, o + j, none⟩ = some (.int .u8 u.toNat)) : w.rangeAt b o (bcs l) := by
  intro j v hj
  rw [bcs_get] at hj
  obtain ⟨u, hu, rfl⟩ := Option.map_eq_some_iff.1 hj
  exact hc j u hu
/-- A whole hash into the block that was made last. -/
theorem store_hash (w : World) (l : List UInt8) (h : l.length = 32) :
    (storeCells ⟨w.heap.size, 0, none⟩ (bcs l) 0).run Tryd.prog (w.alloc (.cells #[Value.int IntKind.u8 0, Value.int IntKind.u8 0, Value.int IntKind.u8 0, Value.int IntKind.u8 0, Value.int IntKind.u8 0, Value.int IntKind.u8 0, Value.int IntKind.u8 0, Value.int IntKind.u8 0, Value.int IntKind.u8 0, Value.int IntKind.u8 0, Value.int IntKind.u8 0, Value.int IntKind.u8 0, Value.int IntKind.u8 0, Value.int IntKind.u8 0, Value.int IntKind.u8 0, Value.int IntKind.u8 0, Value.int IntKind.u8 0, Value.int IntKind.u8 0, Value.int IntKind.u8 0, Value.int IntKind.u8 0, Value.int IntKind.u8 0, Value.int IntKind.u8 0, Value.int IntKind.u8 0, Value.int IntKind.u8 0, Value.int IntKind.u8 0, Value.int IntKind.u8 0, Value.int IntKind.u8 0, Value.int IntKind.u8 0, Value.int IntKind.u8 0, Value.int IntKind.u8 0, Value.int IntKind.u8 0, Value.int IntKind.u8 0] 44)) = .ok () (w.alloc (.cells (bcs l).toArray 44)) := by
  have hs : (bcs l).toArray.size = 32 := by simp [bcs_length, h]
  have := run_storeCells_new (P := Tryd.prog) w 44 #[Value.int IntKind.u8 0, Value.int IntKind.u8 0, Value.int IntKind.u8 0, Value.int IntKind.u8 0, Value.int IntKind.u8 0, Value.int IntKind.u8 0, Value.int IntKind.u8 0, Value.int IntKind.u8 0, Value.int IntKind.u8 0, Value.int IntKind.u8 0, Value.int IntKind.u8 0, Value.int IntKind.u8 0, Value.int IntKind.u8 0, Value.int IntKind.u8 0, Value.int IntKind.u8 0, Value.int IntKind.u8 0, Value.int IntKind.u8 0, Value.int IntKind.u8 0, Value.int IntKind.u8 0, Value.int IntKind.u8 0, Value.int IntKind.u8 0, Value.int IntKind.u8 0, Value.int IntKind.u8 0, Value.int IntKind.u8 0, Value.int IntKind.u8 0, Value.int IntKind.u8 0, Value.int IntKind.u8 0, Value.int IntKind.u8 0, Value.int IntKind.u8 0, Value.int IntKind.u8 0, Value.int IntKind.u8 0, Value.int IntKind.u8 0] (bcs l).toArray (by rw [hs]; exact info_hash) (by rw [hs]; rfl) (bcs_all l)
  simpa using this

set_option maxHeartbeats 400000 in
theorem text1_rd (A : Option Addr) (c : Nat) (l : List UInt8) (w : World) (h : Rd w A l) :
    Calls Tryd.prog 35 #[.slice A l.length c] w fun e w' => e = .returned (.string ⟨l.toArray⟩) ∧ w = w' := by
  have hcv := h.text 23 9 5 c Tryd.underlying23 Tryd.underlying5 Tryd.underlying9
  go_enter Tryd.func35, Tryd.ntmps35
  go_wp2
  go_ret
  exact ⟨rfl, rfl⟩

set_option maxHeartbeats 400000 in
theorem hash1_rd (A : Option Addr) (c : Nat) (l : List UInt8) (w : World) (h : Rd w A l) (h32 : l.length = 32) :
    Calls Tryd.prog 61 #[.slice A 32 c] w fun e w' => e = .returned (.agg (bcs l).toArray) ∧ w.alloc (.cells (bcs l).toArray 44) = w' := by
  have hat : ∀ w, (Instr.arrayAt 44 (.slice A 32 c)).run Tryd.prog w = .ok (.pointer A) w := fun w => run_arrayAt w 44 _ 32 _ 32 c Tryd.underlying44 (by omega)
  have hst := store_hash w l h32
  have hres : Tryd.f61.results = #[.cell 2 44] := by kernel_rfl
  have hlen : (bcs l).length = 32 := by rw [bcs_length, h32]
  rcases h with rfl | ⟨b, o, rfl, hc⟩
  · simp at h32
  have hr := (Rd.range hc)
  have H := Lib.hid hr
  have Hr := Lib.hid hres
  clear hr hc h32 hres
  go_enter Tryd.func61, Tryd.ntmps61
  go_wp2_with (refine wpList_load_mid rfl _ (.tmp 4) rfl b o rfl (bcs l) _ ?c1 Tryd.underlying44 rfl ?c2 ?_)
  case c1 =>
    intro j v hj
    have hj' := H.out j v hj
    rw [World.cell?_alloc_lt _ _ _ (World.block_lt_of_cell? _ _ hj')]
    exact hj'
  case c2 => rw [hlen]; exact info_hash
  refine bodyPost_ret (v := .agg (bcs l).toArray) ?_ rfl ⟨rfl, rfl⟩
  exact results_cell_row Hr.out _ _ w.heap.size _ _ (0, 0) _ rfl (heap_alloc_last w _) Tryd.underlying44 rfl (by simpa [hlen] using info_hash)

end Go.Proofs.YtcgfnfejacgaeaaDoor
