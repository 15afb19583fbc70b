/- The 16 words of a block's 64 bytes. No condition but that the bytes are there. -/
import Derived.Test.YtbchfpcdmkldeaaDoorShaRnd
namespace Go.Proofs.YtbchfpcdmkldeaaDoor
open Go.RowKit

/-- The number that the first j bytes from place p on make. -/
def wf (l : List UInt8) (p : Nat) : Nat → Nat
  | 0 => 0
  | j + 1 => wf l p j * 256 + (l.getD (p + j) 0).toNat
theorem wf_lt (l : List UInt8) (p j : Nat) : wf l p j < 256 ^ j := by
  induction j with
  | zero => exact Nat.one_pos
  | succ j ih =>
    have := (l.getD (p + j) 0).toNat_lt
    rw [wf, Nat.pow_succ]
    omega
theorem wordZ_eq (l : List UInt8) (i : Nat) : wordZ l i = ((wf l (4 * i) 4 : Nat) : Int) := by
  simp [wordZ, wf]
theorem or_byte (a x : Nat) (ha : a < 16777216) (hx : x < 256) : bits .or .u32 ((a : Int) * 256 % 4294967296) (x : Int) = ((a * 256 + x : Nat) : Int) := by
  have e : (a : Int) * 256 % 4294967296 = ((a * 256 : Nat) : Int) := by omega
  rw [e, u32_or_nat _ _ (by omega) (by omega)]
  have := Nat.shiftLeft_add_eq_or_of_lt (i := 8) (b := x) (by omega) a
  rw [Nat.shiftLeft_eq] at this
  rw [← this]
/-- The words while they are gathered: i of them whole, of the next one j bytes. -/
def part16 (l : List UInt8) (i j q : Nat) : Int := if q < i then wordZ l q else if q = i then ((wf l (4 * i) j : Nat) : Int) else 0

theorem infoA16 : (Tryd.prog.info? 33).map (·.size) = some 16 := by kernel_rfl
theorem ringCells_length (R : Nat → Int) : (ringCells R).length = 16 := by simp [ringCells]
theorem ringCells_one (R : Nat → Int) : ∀ v ∈ ringCells R, v.oneCell' = true := fun v hv => by
  obtain ⟨_, _, rfl⟩ := List.mem_map.1 hv
  rfl
theorem part16_start (l : List UInt8) : part16 l 0 0 = fun _ => 0 := by
  funext q
  simp [part16, wf]
theorem part16_next (l : List UInt8) (k : Nat) : part16 l k 4 = part16 l (k + 1) 0 := by
  funext q
  unfold part16
  by_cases h : q < k
  · rw [if_pos h, if_pos (by omega)]
  · rw [if_neg h]
    by_cases e : q = k
    · rw [if_pos e, if_pos (by omega), e, wordZ_eq]
    · rw [if_neg e, if_neg (by omega)]
      split
      · rfl
      · rfl
theorem ring_set (R : Nat → Int) (r : Nat) (v : Int) : (ringCells R).toArray.setIfInBounds r (.int .u32 v) = (ringCells (fun q => if q = r then v else R q)).toArray := by
  rw [List.setIfInBounds_toArray]
  congr 1
  apply List.ext_getElem?
  intro j
  rw [List.getElem?_set]
  simp only [ringCells, List.length_map, List.length_range, List.getElem?_map]
  rcases Nat.lt_or_ge j 16 with hj | hj
  · rw [List.getElem?_range hj]
    by_cases e : r = j
    · rw [if_pos e, if_pos (by omega)]
      simp [e]
    · rw [if_neg e]
      simp [Ne.symm e]
  · rw [List.getElem?_eq_none (l := List.range 16) (by simpa using hj)]
    by_cases e : r = j
    · rw [if_pos e, if_neg (by omega)]; rfl
    · rw [if_neg e]; rfl
theorem part16_step (l : List UInt8) (k j : Nat) : (fun q => if q = k then ((wf l (4 * k) (j + 1) : Nat) : Int) else part16 l k j q) = part16 l k (j + 1) := by
  funext q
  unfold part16
  by_cases h : q = k
  · subst h; simp
  · simp [h]

set_option maxHeartbeats 4000000 in
set_option maxRecDepth 100000 in
theorem words_any (b o : Nat) (l : List UInt8) (w : World) (hl : l.length = 64) (hc : ∀ j u, l[j]? = some u → w.cell? ⟨b, o + j, none⟩ = some (.int .u8 u.toNat)) :
    Calls Tryd.prog 11 #[.slice (some ⟨b, o, none⟩) 64 64] w fun e w' => e = .returned (.agg (ringCells (wordZ l)).toArray) ∧ Kp (fun _ => False) w w' := by
  have Hr : Hid (Tryd.f11.results = #[.cell 2 33]) := Lib.hid (by kernel_rfl)
  have Hc := Lib.hid hc
  clear hc
  go_enter Tryd.func11, Tryd.ntmps11
  go_wp2_with fail
  have hb0 := (Box.new w 33 (ringCells (fun _ => 0)).toArray).alloc (.cells (ringCells (fun _ => 0)).toArray 33)
  have hb1 := Box.new (w.alloc (.cells (ringCells (fun _ => 0)).toArray 33)) 33 (ringCells (fun _ => 0)).toArray
  have k0 := ((Kp.refl (fun _ => False) w).alloc (.cells (ringCells (fun _ => 0)).toArray 33)).alloc (.cells (ringCells (fun _ => 0)).toArray 33)
  have hg1 : (w.alloc (.cells (ringCells (fun _ => 0)).toArray 33)).heap.size = w.heap.size + 1 := by simp
  rw [hg1] at hb1
  have hbw : b < w.heap.size := World.block_lt_of_cell? w ⟨b, o + 0, none⟩ (Hc.out 0 (l[0]'(by omega)) (by simp))
  have hcw : ∀ j u, l[j]? = some u → ((w.alloc (.cells (ringCells (fun _ => 0)).toArray 33)).alloc (.cells (ringCells (fun _ => 0)).toArray 33)).cell? ⟨b, o + j, none⟩ = some (.int .u8 u.toNat) := fun j u hj => (k0.cell (p := ⟨b, o + j, none⟩) hbw (fun h => h)).trans (Hc.out j u hj)
  rw [show (ringCells (fun _ => 0)).toArray = #[Value.int IntKind.u32 0, Value.int IntKind.u32 0, Value.int IntKind.u32 0, Value.int IntKind.u32 0, Value.int IntKind.u32 0, Value.int IntKind.u32 0, Value.int IntKind.u32 0, Value.int IntKind.u32 0, Value.int IntKind.u32 0, Value.int IntKind.u32 0, Value.int IntKind.u32 0, Value.int IntKind.u32 0, Value.int IntKind.u32 0, Value.int IntKind.u32 0, Value.int IntKind.u32 0, Value.int IntKind.u32 0] from rfl] at hb0 hb1 k0 hcw
  generalize ((w.alloc (.cells #[Value.int IntKind.u32 0, Value.int IntKind.u32 0, Value.int IntKind.u32 0, Value.int IntKind.u32 0, Value.int IntKind.u32 0, Value.int IntKind.u32 0, Value.int IntKind.u32 0, Value.int IntKind.u32 0, Value.int IntKind.u32 0, Value.int IntKind.u32 0, Value.int IntKind.u32 0, Value.int IntKind.u32 0, Value.int IntKind.u32 0, Value.int IntKind.u32 0, Value.int IntKind.u32 0, Value.int IntKind.u32 0] 33)).alloc (.cells #[Value.int IntKind.u32 0, Value.int IntKind.u32 0, Value.int IntKind.u32 0, Value.int IntKind.u32 0, Value.int IntKind.u32 0, Value.int IntKind.u32 0, Value.int IntKind.u32 0, Value.int IntKind.u32 0, Value.int IntKind.u32 0, Value.int IntKind.u32 0, Value.int IntKind.u32 0, Value.int IntKind.u32 0, Value.int IntKind.u32 0, Value.int IntKind.u32 0, Value.int IntKind.u32 0, Value.int IntKind.u32 0] 33)) = w2 at *
  rw [show #[Value.int IntKind.u32 0, Value.int IntKind.u32 0, Value.int IntKind.u32 0, Value.int IntKind.u32 0, Value.int IntKind.u32 0, Value.int IntKind.u32 0, Value.int IntKind.u32 0, Value.int IntKind.u32 0, Value.int IntKind.u32 0, Value.int IntKind.u32 0, Value.int IntKind.u32 0, Value.int IntKind.u32 0, Value.int IntKind.u32 0, Value.int IntKind.u32 0, Value.int IntKind.u32 0, Value.int IntKind.u32 0] = (ringCells (part16 l 0 0)).toArray from by rw [part16_start]; rfl] at hb0 hb1
  have B0 := Lib.hid hb0
  have B1 := Lib.hid hb1
  have K0 := Lib.hid k0
  have Hcw := Lib.hid hcw
  clear hb0 hb1 k0 hcw hg1 Hc
  go_loopw [7] (fun i wr => ∃ k : Nat, k ≤ 16 ∧ i = .int .i64 k ∧ Box wr (w.heap.size + 1) 33 (ringCells (part16 l k 0)).toArray ∧ Kp (fun q => q = w.heap.size + 1) w2 wr) (fun i _ => 16 - (intOf i).toNat)
  case atStart => exact ⟨0, by omega, rfl, B1.out, Kp.refl _ _⟩
  case round =>
    obtain ⟨k, hk, rfl, hbx, hkp⟩ := hrel
    have Hbx := Lib.hid hbx
    have Hkp := Lib.hid hkp
    clear hbx hkp
    by_cases hlt : k < 16
    · have hk16 : (k : Int) < 16 := by omega
      go_wp2_with fail
      have HlenI : Hid (4 * k + 4 - 4 * k = 4) := Lib.hid (by omega)
      rw [HlenI.out]
      go_loopw [18] (fun i wr' => ∃ j : Nat, j ≤ 4 ∧ i = .int .i64 j ∧ Box wr' (w.heap.size + 1) 33 (ringCells (part16 l k j)).toArray ∧ Kp (fun q => q = w.heap.size + 1) w2 wr') (fun i _ => 4 - (intOf i).toNat)
      case atStart => exact ⟨0, by omega, rfl, Hbx.out, Hkp.out⟩
      case round =>
        obtain ⟨j, hj, rfl, hbx, hkp⟩ := hrel
        have Hbj := Lib.hid hbx
        have Hkj := Lib.hid hkp
        clear hbx hkp
        by_cases hltj : j < 4
        · have hj4 : (j : Int) < 4 := by omega
          have hxl : 4 * k + j < l.length := by omega
          have hcb : wr.cell? ⟨b, o + 4 * k + j, none⟩ = some (.int .u8 (l[4 * k + j]).toNat) := by
            rw [Hkj.out.cell (p := ⟨b, o + 4 * k + j, none⟩) (Nat.lt_of_lt_of_le hbw K0.out.size) (by simp only; omega), Nat.add_assoc]
            exact Hcw.out _ _ (List.getElem?_eq_getElem hxl)
          have hck := ring_cell Hbj.out k hlt
          have hcf := Hbj.out.free k
          have hwf : wf l (4 * k) (j + 1) = wf l (4 * k) j * 256 + (l[4 * k + j]).toNat := by rw [wf, List.getD_eq_getElem?_getD, List.getElem?_eq_getElem hxl]; rfl
          rw [show part16 l k j k = ((wf l (4 * k) j : Nat) : Int) by simp [part16]] at hck
          have hst := part16_step l k j
          have hwl : wf l (4 * k) j < 16777216 := Nat.lt_of_lt_of_le (wf_lt l (4 * k) j) (Nat.pow_le_pow_right (by omega) (show j ≤ 3 by omega))
          have hor := or_byte (wf l (4 * k) j) (l[4 * k + j]).toNat hwl (UInt8.toNat_lt _)
          rw [← hwf] at hor
          have Hst := Lib.hid hst
          have Hor := Lib.hid hor
          clear hst hor hwf hwl
          generalize (l[4 * k + j]) = x at *
          generalize wf l (4 * k) j = v0 at *
          generalize wf l (4 * k) (j + 1) = v1 at *
          go_wp2_with fail
          have hx256 : (x.toNat : Int) % 4294967296 = x.toNat := by have := x.toNat_lt; omega
          have hput := Hbj.out.put k (.int .u32 (v1 : Int))
          rw [ring_set, Hst.out] at hput
          rw [← Hor.out, ← hx256] at hput
          go_roundw
          case rel => exact ⟨j + 1, by omega, by go_num, hput, Hkj.out.setCell (p := ⟨w.heap.size + 1, k, none⟩) (.inr rfl) _⟩
          case measure => simp [intOf]; omega
        · obtain rfl : j = 4 := by omega
          go_wp2_with fail
          go_roundw
          case rel => exact ⟨k + 1, by omega, by go_num, by rw [← part16_next]; exact Hbj.out, Hkj.out⟩
          case measure => simp [intOf]; omega
    · obtain rfl : k = 16 := by omega
      have hres : part16 l 16 0 = fun q => if q < 16 then wordZ l q else 0 := by
        funext q; unfold part16; split
        · rfl
        · split
          · rfl
          · rfl
      have hrc : ringCells (part16 l 16 0) = ringCells (wordZ l) := by
        unfold ringCells
        rw [hres]
        refine List.map_congr_left fun q hq => ?_
        simp only
        rw [if_pos (List.mem_range.1 hq)]
      have Hrc := Lib.hid hrc
      clear hres hrc
      have hb16 := Hbx.out
      rw [Hrc.out] at hb16
      have hb2 : Hid (Box wr w.heap.size 33 (ringCells (part16 l 0 0)).toArray) := Lib.hid (B0.out.kp Hkp.out (by omega))
      have hdone : Hid (Kp (fun _ => False) w (wr.setCells w.heap.size 0 (ringCells (wordZ l)).toArray.toList)) := Lib.hid (Kp.setCells _ _ _ (K0.out.trans_new Hkp.out (fun q hq => .inl (by omega))) (.inl (Nat.le_refl _)))
      have hbox : Hid (Box (wr.setCells w.heap.size 0 (ringCells (wordZ l)).toArray.toList) w.heap.size 33 (ringCells (wordZ l)).toArray) := Lib.hid (hb2.out.write (by simp [ringCells]))
      have hb16 := Lib.hid hb16
      go_wp2_with (first
        | (refine wpList_load_mid rfl _ (.tmp 3) rfl (w.heap.size + 1) 0 rfl (ringCells (wordZ l)) _ ?c1 Tryd.underlying33 rfl ?c2 ?_)
        | (refine wpList_store_mid rfl _ (.tmp 2) (.tmp 33) rfl w.heap.size 0 (ringCells (wordZ l)).toArray rfl rfl ?c3 ?c4 ?c5 ?_))
      case c1 => exact hb16.out.range'
      case c2 => exact Option.map_eq_some_iff.1 (show (Tryd.prog.info? 33).map (·.size) = some (ringCells (wordZ l)).length by rw [ringCells_length]; exact infoA16)
      case c3 => exact hb2.out.there
      case c4 => exact Option.map_eq_some_iff.1 (show (Tryd.prog.info? 33).map (·.size) = some (ringCells (wordZ l)).length by rw [ringCells_length]; exact infoA16)
      case c5 => exact ringCells_one _
      refine bodyPost_ret (v := .agg (ringCells (wordZ l)).toArray) ?_ rfl ⟨rfl, hdone.out⟩
      exact results_cell_row Hr.out _ _ w.heap.size _ _ (0, 0) _ rfl hbox.out Tryd.underlying33 rfl (by kernel_rfl)
end Go.Proofs.YtbchfpcdmkldeaaDoor
