/- Known bytes: what the law's helper answers of a text whose hash is known. Conditions: the two tables read as the program's text lays them; at most 2^31 bytes. -/
import Derived.Test.YtbchfpcdmkldeaaDoorShaSum
import Derived.Stop.BytesEq
namespace Go.Proofs.YtbchfpcdmkldeaaDoor
open Go.RowKit

/-- The hash's 32 bytes. -/
def hashL (s : St) : List UInt8 := (List.range 32).map fun i => UInt8.ofNat (hashZ s i).toNat
theorem hCells_bcs (s : St) : hCells (hashZ s) = bcs (hashL s) := by
  simp only [hCells, bcs, hashL, List.map_map]
  refine List.map_congr_left fun i _ => ?_
  simp only [Function.comp_apply]
  congr 1
  rw [UInt8.toNat_ofNat']
  unfold hashZ
  omega
theorem hashL_length (s : St) : (hashL s).length = 32 := by simp [hashL]

/-- Two hashes, compared. -/
theorem hash_eqs (s t : St) (w : World) : (Op.equalIn 10000 25 (.agg (hCells (hashZ s)).toArray) (.agg (hCells (hashZ t)).toArray)).run Tryd.prog w = .ok (hashL s == hashL t) w := by
  obtain ⟨i0, hi, hz0, hz1, hz2⟩ := info_parts info_byt
  rw [hCells_bcs, hCells_bcs]
  exact run_equalIn_bytes w 9998 25 5 32 Tryd.underlying25 Tryd.underlying5 (fun w => by simp [sizeOf, typeInfo, hi, hz1]) (hashL s) (hashL t) (hashL_length s) (hashL_length t)
theorem rd_bytesRow (w : World) (s : ByteArray) (cap : Nat) (e : TypeId) (fr : Nat × Nat) (g : Nat) (hg : g = w.heap.size) : Rd (w.alloc (.cells (bytesRow s cap) e fr)) (some ⟨g, 0, none⟩) s.data.toList :=
  .inr ⟨_, 0, rfl, fun j u hu => by
    obtain ⟨hj, rfl⟩ := List.getElem?_eq_some_iff.1 hu
    rw [Joins.cell_alloc_mark_at w _ e fr g _ hg, Nat.zero_add, bytesRow_at s cap j (by simpa using hj)]
    simp⟩

set_option maxHeartbeats 4000000 in
set_option maxRecDepth 100000 in
theorem known_true (s want : ByteArray) (w : World) (hs : s.size ≤ 4294967296) (ht : Tbls w) (hw : hashL (shaZ s.data.toList) = want.data.toList) :
    Calls Tryd.prog 8 #[.string s, .string want] w fun e w' => e = .returned (.bool true) ∧ Kp (fun _ => False) w w' := by
  have hcv := run_bytes_of_string (P := Tryd.prog) w 9 22 5 s Tryd.underlying9 Tryd.underlying22 Tryd.underlying5
  have hr0 := rd_bytesRow w.drew s (grownCap w s.size 0 5) 5 ((bytesRow s (grownCap w s.size 0 5)).size, (bytesRow s (grownCap w s.size 0 5)).size + 1) w.heap.size rfl
  have hk0 := (Kp.refl (fun _ => False) w).drew.alloc (.cells (bytesRow s (grownCap w s.size 0 5)) 5 ((bytesRow s (grownCap w s.size 0 5)).size, (bytesRow s (grownCap w s.size 0 5)).size + 1))
  have hgc := grownCap_ge w s.size 0 5
  generalize w.drew.alloc (.cells (bytesRow s (grownCap w s.size 0 5)) 5 ((bytesRow s (grownCap w s.size 0 5)).size, (bytesRow s (grownCap w s.size 0 5)).size + 1)) = W1 at *
  generalize grownCap w s.size 0 5 = cap at *
  have hsz : s.data.toList.length = s.size := Array.length_toList
  have hsum := sum_any (some ⟨w.heap.size, 0, none⟩) s.data.toList cap W1 (by omega) (by omega) hr0 (ht.kp hk0 (fun h => h) (fun h => h))
  rw [hsz] at hsum
  have Hsum := Lib.hid hsum
  have HK := Lib.hid hk0
  have Hw := Lib.hid hw
  clear hsum hk0 hr0 hw ht hsz
  go_enter Tryd.func8, Tryd.ntmps8
  go_wp2_with fail
  refine Hsum.out.mono ?_
  rintro e y ⟨rfl, ky⟩
  rw [hCells_bcs]
  generalize hcl : hashL (shaZ s.data.toList) = hl at *
  have hl32 : hl.length = 32 := by rw [← hcl]; exact hashL_length _
  have hbx := Lib.hid (Box.new y 25 zero32.toArray)
  have hbw := Lib.hid (hbx.out.write (vs := bcs hl) (by rw [bcs_length, hl32]; rfl))
  have hkw : Kp (fun _ => False) w ((y.alloc (.cells zero32.toArray 25)).setCells y.heap.size 0 (bcs hl)) :=
    Kp.setCells _ _ _ ((HK.out.trans ky).alloc _) (.inl (Nat.le_trans HK.out.size ky.size))
  have HKW := Lib.hid hkw
  have hrd : Rd ((y.alloc (.cells zero32.toArray 25)).setCells y.heap.size 0 (bcs hl)) (some ⟨y.heap.size, 0, none⟩) hl :=
    .inr ⟨_, 0, rfl, fun j u hj => by rw [hbw.out.cell, Nat.zero_add]; simp [bcs, hj]⟩
  have htx := hrd.text 22 9 5 32 Tryd.underlying22 Tryd.underlying5 Tryd.underlying9
  rw [hl32] at htx
  have hl32' := Lib.hid hl32
  unfold zero32 at htx hbx HKW
  clear hcl hkw hrd ky HK Hsum hcv hl32
  go_wp2_with (refine wpList_store_mid rfl _ (.tmp 5) (.tmp 8) rfl y.heap.size 0 (bcs hl).toArray rfl rfl ?c1 ?c2 ?c3 ?_)
  case c1 => rw [show (bcs hl).toArray.size = 32 by rw [List.size_toArray, bcs_length, hl32'.out]]; exact hbx.out.there
  case c2 => rw [show (bcs hl).toArray.size = 32 by rw [List.size_toArray, bcs_length, hl32'.out]]; exact infoA32
  case c3 => exact all_oneCell_toArray (bcs_one hl)
  generalize (y.alloc (.cells #[.int .u8 0, .int .u8 0, .int .u8 0, .int .u8 0, .int .u8 0, .int .u8 0, .int .u8 0, .int .u8 0, .int .u8 0, .int .u8 0, .int .u8 0, .int .u8 0, .int .u8 0, .int .u8 0, .int .u8 0, .int .u8 0, .int .u8 0, .int .u8 0, .int .u8 0, .int .u8 0, .int .u8 0, .int .u8 0, .int .u8 0, .int .u8 0, .int .u8 0, .int .u8 0, .int .u8 0, .int .u8 0, .int .u8 0, .int .u8 0, .int .u8 0, .int .u8 0] 25)).setCells y.heap.size 0 (bcs hl) = W2 at *
  have heq : (hl == want.toList) = true := by
    rw [ByteArray.toList_eq, Hw.out]
    simp
  clear hbx hbw
  have Heq := Lib.hid heq
  clear heq
  go_wp2_with fail
  go_ret
  exact ⟨by show Ending.returned (.bool (hl == want.toList)) = _; rw [Heq.out], HKW.out⟩
end Go.Proofs.YtbchfpcdmkldeaaDoor
