/- The work on one block, by the closure: the eight words in their block, each added to what the rounds made. Condition: the table of constants reads as the program's text lays it; the words' block and the bytes' are two. -/
import Derived.Test.YtbchfpcdmkldeaaDoorShaHash
import Derived.Deep.RegionHeld3
namespace Go.Proofs.YtbchfpcdmkldeaaDoor
open Go.RowKit

def sCells (f : Nat → Int) : List Value := (List.range 8).map fun q => .int .u32 (f q)
theorem sCells_of (s : St) : s.cells = sCells (fun q => s.list.getD q 0) := rfl
def plusPart (s t : St) (k q : Nat) : Int := if q < k then addZ (s.list.getD q 0) (t.list.getD q 0) else s.list.getD q 0
theorem plusPart_start (s t : St) : s.cells = sCells (plusPart s t 0) := rfl
theorem plusPart_last (s t : St) : sCells (plusPart s t 8) = (s.plus t).cells := rfl
theorem s_set (H : Nat → Int) (r : Nat) (v : Int) : (sCells H).toArray.setIfInBounds r (.int .u32 v) = (sCells (fun q => if q = r then v else H q)).toArray := by
  rw [List.setIfInBounds_toArray]
  congr 1
  apply List.ext_getElem?
  intro j
  rw [List.getElem?_set]
  simp only [sCells, List.length_map, List.length_range, List.getElem?_map]
  rcases Nat.lt_or_ge j 8 with hj | hj
  · rw [List.getElem?_range hj]
    by_cases e : r = j
    · rw [if_pos e, if_pos (by omega)]
      simp [e]
    · rw [if_neg e]
      simp [Ne.symm e]
  · rw [List.getElem?_eq_none (l := List.range 8) (by simpa using hj)]
    by_cases e : r = j
    · rw [if_pos e, if_neg (by omega)]; rfl
    · rw [if_neg e]; rfl
theorem s_cell {w : World} {g : Nat} {t : TypeId} {R : Nat → Int} (h : Box w g t (sCells R).toArray) (j : Nat) (hj : j < 8) : w.cell? ⟨g, j, none⟩ = some (.int .u32 (R j)) := by
  rw [h.cell]
  simp [sCells, hj]
theorem plusPart_step (s t : St) (k : Nat) : (fun q => if q = k then addZ (plusPart s t k k) (t.list.getD k 0) else plusPart s t k q) = plusPart s t (k + 1) := by
  funext q
  unfold plusPart
  by_cases h : q = k
  · subst h; simp
  · rw [if_neg h]
    by_cases h2 : q < k
    · rw [if_pos h2, if_pos (by omega)]
    · rw [if_neg h2, if_neg (by omega)]
theorem st_idx (s : St) (k : Nat) (hk : k < 8) : s.cells.toArray[k]? = some (.int .u32 (s.list.getD k 0)) := by
  have hl : s.list.length = 8 := rfl
  simp only [St.cells, List.getElem?_toArray, List.getElem?_map]
  rw [List.getD_eq_getElem?_getD, List.getElem?_eq_getElem (by omega)]
  rfl

theorem st_cells8 {v : World} {G : Nat} {t : TypeId} {s : St} (h : Box v G t s.cells.toArray) : v.cell? ⟨G, 0, none⟩ = some (.int .u32 s.a) ∧ v.cell? ⟨G, 1, none⟩ = some (.int .u32 s.b) ∧ v.cell? ⟨G, 2, none⟩ = some (.int .u32 s.c) ∧ v.cell? ⟨G, 3, none⟩ = some (.int .u32 s.d) ∧ v.cell? ⟨G, 4, none⟩ = some (.int .u32 s.e) ∧ v.cell? ⟨G, 5, none⟩ = some (.int .u32 s.f) ∧ v.cell? ⟨G, 6, none⟩ = some (.int .u32 s.g) ∧ v.cell? ⟨G, 7, none⟩ = some (.int .u32 s.h) :=
  ⟨h.cell 0, h.cell 1, h.cell 2, h.cell 3, h.cell 4, h.cell 5, h.cell 6, h.cell 7⟩

set_option maxHeartbeats 4000000 in
set_option maxRecDepth 100000 in
theorem work_any (s : St) (b o G : Nat) (l : List UInt8) (w : World) (hl : l.length = 64) (hc : ∀ j u, l[j]? = some u → w.cell? ⟨b, o + j, none⟩ = some (.int .u8 u.toNat)) (hG : Box w G 31 s.cells.toArray) (ht : Tbl w) :
    Calls Tryd.prog 9 #[.slice (some ⟨b, o, none⟩) 64 64, .pointer (some ⟨G, 0, none⟩)] w fun e w' => e = .returned (.tuple #[]) ∧ Box w' G 31 (s.block kZ l).cells.toArray ∧ Kp (fun q => q = G) w w' := by
  have T := Lib.hid ht
  have C := Lib.hid hc
  have B := Lib.hid hG
  clear ht hc hG
  have hu31 := Tryd.underlying31
  have hi31 : (Tryd.prog.info? 31).map (·.size) = some s.cells.length := infoA8
  go_enter Tryd.func9, Tryd.ntmps9
  go_wp2_with fail
  have hr0 := st_cells8 B.out
  go_region_held3 (fun v => v.cell? ⟨G, 0, none⟩ = some (.int .u32 s.a) ∧ v.cell? ⟨G, 1, none⟩ = some (.int .u32 s.b) ∧ v.cell? ⟨G, 2, none⟩ = some (.int .u32 s.c) ∧ v.cell? ⟨G, 3, none⟩ = some (.int .u32 s.d) ∧ v.cell? ⟨G, 4, none⟩ = some (.int .u32 s.e) ∧ v.cell? ⟨G, 5, none⟩ = some (.int .u32 s.f) ∧ v.cell? ⟨G, 6, none⟩ = some (.int .u32 s.g) ∧ v.cell? ⟨G, 7, none⟩ = some (.int .u32 s.h)) (first | exact hr0 | exact hr1 | exact hr2)
    (first
      | (go_at_call 11; refine (words_any b o l w.drew hl C.out).mono ?_; rintro e y1 ⟨rfl, k1⟩; have T1 := Lib.hid (T.out.kp (w := w.drew) k1 (fun h => h)); have B1 := Lib.hid (B.out.kp (w := w.drew) k1 (fun h => h)); have hr1 := st_cells8 B1.out; have K1 := Lib.hid k1; clear k1)
      | (go_at_call 10; refine (rounds_any s (wordZ l) _ (Hid.out (‹Hid (Tbl _)›))).mono ?_; rintro e y2 ⟨rfl, k2⟩; have hr2 := st_cells8 (B1.out.kp k2 (fun h => h)); have K2 := Lib.hid k2; clear k2))
  have B2 := Lib.hid (B1.out.kp K2.out (fun h => h))
  have K0 : Hid (Kp (fun _ => False) w y2) := Lib.hid (((Kp.refl (fun _ => False) w).drew.trans K1.out).trans K2.out)
  rename_i hHeld
  clear hHeld hr0 hr1 hr2 T1 B1 K1 K2 T C B
  generalize ht : s.rnds kZ (wZ (wordZ l)) 64 = t at *
  have Ht := Lib.hid ht
  clear ht
  have hidx0 := st_idx t
  have Hidx := Lib.hid hidx0
  clear hidx0
  generalize t.cells.toArray = TC at *
  go_wp2_with fail
  go_loopw [9] (fun i wr => ∃ k : Nat, k ≤ 8 ∧ i = .int .i64 k ∧ Box wr G 31 (sCells (plusPart s t k)).toArray ∧ Kp (fun q => q = G) w wr) (fun i _ => 8 - (intOf i).toNat)
  case atStart => exact ⟨0, by omega, rfl, by rw [← plusPart_start]; exact B2.out, K0.out.mono (fun _ _ h => h.elim)⟩
  case round =>
    obtain ⟨k, hk, rfl, hbx, hkp⟩ := hrel
    have Hbx := Lib.hid hbx
    have Hkp := Lib.hid hkp
    clear hbx hkp
    by_cases hlt : k < 8
    · have hk16 : (k : Int) < 8 := by omega
      have hcf := Hbx.out.free k
      have hck := s_cell Hbx.out k hlt
      have hst := plusPart_step s t k
      obtain ⟨i0, hi, hz0, hz1, hz2⟩ := info_parts infoU32
      have hidx := fun w => run_index_agg (P := Tryd.prog) w 31 30 8 .i64 .u32 TC k _ i0 Tryd.underlying31 Tryd.underlying30 hi hz1 hlt (Hidx.out k hlt)
      have Hst := Lib.hid hst
      clear hst hi hz0 hz1 hz2
      unfold addZ at Hst
      generalize t.list.getD k 0 = x at *
      have Hput := Lib.hid (Hbx.out.put k (.int .u32 ((plusPart s t k k + x) % 4294967296)))
      rw [s_set, Hst.out] at Hput
      clear Hst
      generalize plusPart s t k k = y at *
      go_wp2_with fail
      go_roundw
      case rel => exact ⟨k + 1, by omega, by go_num, Hput.out, Hkp.out.setCell (p := ⟨G, k, none⟩) (.inr rfl) _⟩
      case measure => simp [intOf]; omega
    · obtain rfl : k = 8 := by omega
      have hb8 := Hbx.out
      rw [plusPart_last, ← Ht.out] at hb8
      have Hb8 := Lib.hid hb8
      clear hb8
      go_wp2_with fail
      go_end0
      exact ⟨rfl, Hb8.out, Hkp.out⟩
end Go.Proofs.YtbchfpcdmkldeaaDoor
