/- The eight words as 32 bytes. No condition. -/
import Derived.Test.YtbchfpcdmkldeaaDoorShaWords
namespace Go.Proofs.YtbchfpcdmkldeaaDoor
open Go.RowKit

/-- The byte number i of the hash. -/
def hashZ (s : St) (i : Nat) : Int := s.list.getD (i / 4) 0 / 2 ^ (24 - i % 4 * 8) % 256
def hCells (H : Nat → Int) : List Value := (List.range 32).map fun j => .int .u8 (H j)
theorem hCells_length (H : Nat → Int) : (hCells H).length = 32 := by simp [hCells]
theorem hCells_one (H : Nat → Int) : ∀ v ∈ hCells H, v.oneCell' = true := fun v hv => by
  obtain ⟨_, _, rfl⟩ := List.mem_map.1 hv
  rfl
theorem infoA32 : (Tryd.prog.info? 25).map (·.size) = some 32 := by kernel_rfl
theorem h_set (H : Nat → Int) (r : Nat) (v : Int) : (hCells H).toArray.setIfInBounds r (.int .u8 v) = (hCells (fun q => if q = r then v else H q)).toArray := by
  rw [List.setIfInBounds_toArray]
  congr 1
  apply List.ext_getElem?
  intro j
  rw [List.getElem?_set]
  simp only [hCells, List.length_map, List.length_range, List.getElem?_map]
  rcases Nat.lt_or_ge j 32 with hj | hj
  · rw [List.getElem?_range hj]
    by_cases e : r = j
    · rw [if_pos e, if_pos (by omega)]
      simp [e]
    · rw [if_neg e]
      simp [Ne.symm e]
  · rw [List.getElem?_eq_none (l := List.range 32) (by simpa using hj)]
    by_cases e : r = j
    · rw [if_pos e, if_neg (by omega)]; rfl
    · rw [if_neg e]; rfl
theorem h_cell {w : World} {g : Nat} {t : TypeId} {R : Nat → Int} (h : Box w g t (hCells R).toArray) (j : Nat) (hj : j < 32) : w.cell? ⟨g, j, none⟩ = some (.int .u8 (R j)) := by
  rw [h.cell]
  simp [hCells, hj]
/-- The first k bytes are there. -/
def part32 (s : St) (k q : Nat) : Int := if q < k then hashZ s q else 0
theorem part32_start (s : St) : part32 s 0 = fun _ => 0 := by
  funext q; simp [part32]
theorem part32_step (s : St) (k : Nat) : (fun q => if q = k then hashZ s k else part32 s k q) = part32 s (k + 1) := by
  funext q
  unfold part32
  by_cases h : q = k
  · subst h; simp
  · rw [if_neg h]
    by_cases h2 : q < k
    · rw [if_pos h2, if_pos (by omega)]
    · rw [if_neg h2, if_neg (by omega)]
theorem part32_last (s : St) : hCells (part32 s 32) = hCells (hashZ s) := by
  unfold hCells
  refine List.map_congr_left fun q hq => ?_
  unfold part32
  rw [if_pos (List.mem_range.1 hq)]
def zero32 : List Value := [.int .u8 0, .int .u8 0, .int .u8 0, .int .u8 0, .int .u8 0, .int .u8 0, .int .u8 0, .int .u8 0, .int .u8 0, .int .u8 0, .int .u8 0, .int .u8 0, .int .u8 0, .int .u8 0, .int .u8 0, .int .u8 0, .int .u8 0, .int .u8 0, .int .u8 0, .int .u8 0, .int .u8 0, .int .u8 0, .int .u8 0, .int .u8 0, .int .u8 0, .int .u8 0, .int .u8 0, .int .u8 0, .int .u8 0, .int .u8 0, .int .u8 0, .int .u8 0]
theorem st_cell {w : World} {g : Nat} {t : TypeId} {s : St} (h : Box w g t s.cells.toArray) (q : Nat) (hq : q < 8) : w.cell? ⟨g, q, none⟩ = some (.int .u32 (s.list.getD q 0)) := by
  rw [h.cell]
  have hl : s.list.length = 8 := rfl
  simp only [St.cells, List.getElem?_toArray, List.getElem?_map]
  rw [List.getD_eq_getElem?_getD, List.getElem?_eq_getElem (by omega)]
  rfl

set_option maxHeartbeats 4000000 in
set_option maxRecDepth 100000 in
theorem hash_any (s : St) (w : World) :
    Calls Tryd.prog 14 #[.agg s.cells.toArray] w fun e w' => e = .returned (.agg (hCells (hashZ s)).toArray) ∧ Kp (fun _ => False) w w' := by
  have Hr : Hid (Tryd.f14.results = #[.cell 2 25]) := Lib.hid (by kernel_rfl)
  go_enter Tryd.func14, Tryd.ntmps14
  go_wp2_with fail
  have hb0 := ((Box.new w 31 s.cells.toArray).alloc (.cells zero32.toArray 25)).alloc (.cells zero32.toArray 25)
  have hb1 := (Box.new (w.alloc (.cells s.cells.toArray 31)) 25 zero32.toArray).alloc (.cells zero32.toArray 25)
  have hb2 := Box.new ((w.alloc (.cells s.cells.toArray 31)).alloc (.cells zero32.toArray 25)) 25 zero32.toArray
  have k0 := (((Kp.refl (fun _ => False) w).alloc (.cells s.cells.toArray 31)).alloc (.cells zero32.toArray 25)).alloc (.cells zero32.toArray 25)
  have hg1 : (w.alloc (.cells s.cells.toArray 31)).heap.size = w.heap.size + 1 := by simp
  have hg2 : ((w.alloc (.cells s.cells.toArray 31)).alloc (.cells zero32.toArray 25)).heap.size = w.heap.size + 2 := by simp
  rw [hg1] at hb1
  rw [hg2] at hb2
  clear hg1 hg2
  have hz : (hCells (part32 s 0)) = zero32 := by rw [part32_start]; rfl
  unfold zero32 at hb0 hb1 hb2 k0 hz
  generalize ((w.alloc (.cells s.cells.toArray 31)).alloc (.cells [Value.int .u8 0, .int .u8 0, .int .u8 0, .int .u8 0, .int .u8 0, .int .u8 0, .int .u8 0, .int .u8 0, .int .u8 0, .int .u8 0, .int .u8 0, .int .u8 0, .int .u8 0, .int .u8 0, .int .u8 0, .int .u8 0, .int .u8 0, .int .u8 0, .int .u8 0, .int .u8 0, .int .u8 0, .int .u8 0, .int .u8 0, .int .u8 0, .int .u8 0, .int .u8 0, .int .u8 0, .int .u8 0, .int .u8 0, .int .u8 0, .int .u8 0, .int .u8 0].toArray 25)).alloc (.cells #[.int .u8 0, .int .u8 0, .int .u8 0, .int .u8 0, .int .u8 0, .int .u8 0, .int .u8 0, .int .u8 0, .int .u8 0, .int .u8 0, .int .u8 0, .int .u8 0, .int .u8 0, .int .u8 0, .int .u8 0, .int .u8 0, .int .u8 0, .int .u8 0, .int .u8 0, .int .u8 0, .int .u8 0, .int .u8 0, .int .u8 0, .int .u8 0, .int .u8 0, .int .u8 0, .int .u8 0, .int .u8 0, .int .u8 0, .int .u8 0, .int .u8 0, .int .u8 0] 25) = w2 at *
  rw [← hz] at hb1 hb2
  have B0 := Lib.hid hb0
  have B1 := Lib.hid hb1
  have B2 := Lib.hid hb2
  have K0 := Lib.hid k0
  clear hb0 hb1 hb2 k0 hz
  go_loopw [5] (fun i wr => ∃ k : Nat, k ≤ 32 ∧ i = .int .i64 k ∧ Box wr (w.heap.size + 2) 25 (hCells (part32 s k)).toArray ∧ Kp (fun q => q = w.heap.size + 2) w2 wr) (fun i _ => 32 - (intOf i).toNat)
  case atStart => exact ⟨0, by omega, rfl, B2.out, Kp.refl _ _⟩
  case round =>
    obtain ⟨k, hk, rfl, hbx, hkp⟩ := hrel
    have Hbx := Lib.hid hbx
    have Hkp := Lib.hid hkp
    clear hbx hkp
    by_cases hlt : k < 32
    · have hk16 : (k : Int) < 32 := by omega
      have hb0 : Box wr w.heap.size 31 s.cells.toArray := B0.out.kp Hkp.out (by omega)
      have hcq := st_cell hb0 (k / 4) (by omega)
      have hcf := Hbx.out.free k
      have hck := h_cell Hbx.out k hlt
      have hhz : hashZ s k = s.list.getD (k / 4) 0 / 2 ^ (24 - k % 4 * 8) % 256 := rfl
      have hst := part32_step s k
      have t1 : ((k : Int)).tmod 4 = ((k % 4 : Nat) : Int) := (Int.ofNat_tmod k 4).symm
      have t2 : ((k : Int)).tdiv 4 = ((k / 4 : Nat) : Int) := (Int.ofNat_tdiv k 4).symm
      have t3 : (24 : Int) - ((k % 4 : Nat) : Int) * 8 = ((24 - k % 4 * 8 : Nat) : Int) := by omega
      have t4 : (((k / 4 : Nat) : Int)) < 8 := by omega
      have t5 : 24 - k % 4 * 8 < 32 := by omega
      have t6 : (((k % 4 : Nat) : Int)) < 4 := by omega
      have Hst := Lib.hid hst
      have Hhz := Lib.hid hhz
      clear hst hhz hb0
      generalize k / 4 = q at *
      generalize 24 - k % 4 * 8 = n at *
      generalize k % 4 = r at *
      generalize s.list.getD q 0 = x at *
      go_wp2_with fail
      have hput := Hbx.out.put k (.int .u8 (hashZ s k))
      rw [h_set, Hst.out, Hhz.out] at hput
      go_roundw
      case rel => exact ⟨k + 1, by omega, by go_num, hput, Hkp.out.setCell (p := ⟨w.heap.size + 2, k, none⟩) (.inr rfl) _⟩
      case measure => simp [intOf]; omega
    · obtain rfl : k = 32 := by omega
      have hb16 := Hbx.out
      rw [part32_last] at hb16
      have hb1 : Hid (Box wr (w.heap.size + 1) 25 (hCells (part32 s 0)).toArray) := Lib.hid (B1.out.kp Hkp.out (by omega))
      have hdone : Hid (Kp (fun _ => False) w (wr.setCells (w.heap.size + 1) 0 (hCells (hashZ s)).toArray.toList)) := Lib.hid (Kp.setCells _ _ _ (K0.out.trans_new Hkp.out (fun q hq => .inl (by omega))) (.inl (by omega)))
      have hbox : Hid (Box (wr.setCells (w.heap.size + 1) 0 (hCells (hashZ s)).toArray.toList) (w.heap.size + 1) 25 (hCells (hashZ s)).toArray) := Lib.hid (hb1.out.write (by simp [hCells]))
      have hb16 := Lib.hid hb16
      go_wp2_with (first
        | (refine wpList_load_mid rfl _ (.tmp 3) rfl (w.heap.size + 2) 0 rfl (hCells (hashZ s)) _ ?c1 Tryd.underlying25 rfl ?c2 ?_)
        | (refine wpList_store_mid rfl _ (.tmp 2) (.tmp 21) rfl (w.heap.size + 1) 0 (hCells (hashZ s)).toArray rfl rfl ?c3 ?c4 ?c5 ?_))
      case c1 => exact hb16.out.range'
      case c2 => exact Option.map_eq_some_iff.1 (show (Tryd.prog.info? 25).map (·.size) = some (hCells (hashZ s)).length by rw [hCells_length]; exact infoA32)
      case c3 => exact hb1.out.there
      case c4 => exact Option.map_eq_some_iff.1 (show (Tryd.prog.info? 25).map (·.size) = some (hCells (hashZ s)).length by rw [hCells_length]; exact infoA32)
      case c5 => exact hCells_one _
      refine bodyPost_ret (v := .agg (hCells (hashZ s)).toArray) ?_ rfl ⟨rfl, hdone.out⟩
      exact results_cell_row Hr.out _ _ (w.heap.size + 1) _ _ (0, 0) _ rfl hbox.out Tryd.underlying25 rfl (by kernel_rfl)
end Go.Proofs.YtbchfpcdmkldeaaDoor
