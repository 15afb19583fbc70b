/- The page of a map. Condition: no page is used that there is not. -/
import Derived.Test.YtlhfdoaknfgemaaDoorBtUsed
namespace Go.Proofs.YtlhfdoaknfgemaaDoor
open Go.RowKit

theorem made_rep (k m : Nat) (hk : 0 < k) (z : Value) : madeCells (List.replicate k z).toArray m = (List.replicate m z).toArray := by
  apply Array.ext
  · simp [madeCells]
  · intro i h1 h2
    have hm : i % k < (List.replicate k z).toArray.size := by simpa using Nat.mod_lt i hk
    have e : (List.replicate k z).toArray[i % (List.replicate k z).toArray.size]! = z := by
      rw [show (List.replicate k z).toArray.size = k by simp]
      rw [getElem!_pos (List.replicate k z).toArray (i % k) hm]
      simp
    simp only [madeCells, Array.getElem_map, Array.getElem_range, e]
    simp
/-- A new row of so many small things. -/
theorem make_row {P : Program} (t e : TypeId) (i : TypeInfo) (z : Value) (ht : P.underlying t = some (.slice e)) (hi : P.info? e = some i) (hz : i.zero = some z) (hs : i.size = 1) (hb : i.bytes = 1) (hc : z.cells = #[z]) (n : Nat) (hn : n ≤ 1048576) (W : World) :
    (Instr.makeSlice t (.int .i64 n) (.int .i64 n)).run P W = .ok (.slice (some ⟨W.heap.size, 0, none⟩) n n) (W.alloc (.cells (List.replicate n z).toArray e)) := by
  have := run_make (P := P) W t e i z ht hi hz .i64 .i64 n n (by omega) (by omega) (by rw [hb]; omega) (by omega)
  rw [hc, hs, Nat.mul_one, Int.toNat_natCast, show (#[z] : Array Value) = (List.replicate 1 z).toArray from rfl, made_rep 1 n (by decide)] at this
  exact this
theorem infoU8 : (Tryd.prog.info? 5).map (fun i => (i.zero, i.size, i.bytes)) = some (some (.int .u8 0), 1, 1) := by kernel_rfl
theorem infoBool : (Tryd.prog.info? 4).map (fun i => (i.zero, i.size, i.bytes)) = some (some (.bool false), 1, 1) := by kernel_rfl
theorem make_bytes (n : Nat) (hn : n ≤ 1048576) (W : World) : (Instr.makeSlice 39 (.int .i64 n) (.int .i64 n)).run Tryd.prog W = .ok (.slice (some ⟨W.heap.size, 0, none⟩) n n) (W.alloc (.cells (bcs (List.replicate n 0)).toArray 5)) := by
  obtain ⟨i, h1, h2, h3, h4⟩ := info_parts0 infoU8
  have := make_row (P := Tryd.prog) 39 5 i (.int .u8 0) Tryd.underlying39 h1 h2 h3 h4 rfl n hn W
  rw [this]
  simp [bcs]
/-- The page. -/
def byN (f : Nat → Bool) (k : Nat) : Nat := ofB ((List.range 8).map fun i => f (8 * k + i))
theorem byN_lt (f : Nat → Bool) (k : Nat) : byN f k < 256 := by
  have := ofB_lt ((List.range 8).map fun i => f (8 * k + i))
  rw [List.length_map, List.length_range] at this
  exact this
theorem byN_bit (f : Nat → Bool) (k i : Nat) : (byN f k).testBit i = (decide (i < 8) && f (8 * k + i)) := by
  rw [byN, ofB_bit, List.getD_eq_getElem?_getD, List.getElem?_map]
  by_cases h : i < 8
  · rw [List.getElem?_range h]; simp [h]
  · rw [List.getElem?_eq_none (by simpa using h)]; simp [h]
theorem byN_wd (f : Nat → Bool) (k : Nat) : wd f (k * 8 / 64) / 2 ^ (k * 8 % 64) % 256 = byN f k := by
  refine Nat.eq_of_testBit_eq fun i => ?_
  rw [show (256 : Nat) = 2 ^ 8 by decide, Nat.testBit_mod_two_pow, Nat.testBit_div_two_pow, wd_bit, byN_bit]
  by_cases hi : i < 8
  · have h1 : k * 8 % 64 + i < 64 := by omega
    have h2 : 64 * (k * 8 / 64) + (k * 8 % 64 + i) = 8 * k + i := by omega
    have h3 : i + k * 8 % 64 < 64 := by omega
    have h4 : 64 * (k * 8 / 64) + (i + k * 8 % 64) = 8 * k + i := by omega
    simp [hi, h3, h4]
  · simp [hi]
theorem byN_off (f : Nat → Bool) (k : Nat) (h : ∀ i, 8 * k ≤ i → f i = false) : byN f k = 0 := by
  refine Nat.eq_of_testBit_eq fun i => ?_
  rw [byN_bit, h _ (by omega)]; simp
def pageK (f : Nat → Bool) (m : Nat) : List UInt8 := (List.range 512).map fun k => if k < m then UInt8.ofNat (byN f k) else 0
def pageL (f : Nat → Bool) : List UInt8 := (List.range 512).map fun k => UInt8.ofNat (byN f k)
theorem pageL_length (f : Nat → Bool) : (pageL f).length = 512 := by simp [pageL]
theorem pageK_length (f : Nat → Bool) (m : Nat) : (pageK f m).length = 512 := by simp [pageK]
theorem pageL_get (f : Nat → Bool) (k : Nat) (h : k < 512) : (pageL f)[k]? = some (UInt8.ofNat (byN f k)) := by
  rw [pageL, List.getElem?_map, List.getElem?_range h]; rfl
theorem pageK_get (f : Nat → Bool) (m k : Nat) (h : k < 512) : (pageK f m)[k]? = some (if k < m then UInt8.ofNat (byN f k) else 0) := by
  rw [pageK, List.getElem?_map, List.getElem?_range h]; rfl
theorem pageK_zero (f : Nat → Bool) : pageK f 0 = List.replicate 512 0 := by
  refine List.ext_getElem? fun j => ?_
  rcases Nat.lt_or_ge j 512 with h | h
  · rw [pageK_get _ _ _ h, List.getElem?_replicate_of_lt h, if_neg (by omega)]
  · rw [List.getElem?_eq_none (by rw [pageK_length]; exact h), List.getElem?_eq_none (by rw [List.length_replicate]; exact h)]
theorem pageK_set (f : Nat → Bool) (k : Nat) (hk : k < 512) : (pageK f k).set k (UInt8.ofNat (byN f k)) = pageK f (k + 1) := by
  refine List.ext_getElem? fun j => ?_
  rw [List.getElem?_set]
  by_cases hj : k = j
  · subst hj
    rw [if_pos rfl, if_pos (by rw [pageK_length]; exact hk), pageK_get _ _ _ hk, if_pos (by omega)]
  · rw [if_neg hj]
    rcases Nat.lt_or_ge j 512 with h | h
    · rw [pageK_get _ _ _ h, pageK_get _ _ _ h]
      congr 1
      by_cases h1 : j < k
      · rw [if_pos h1, if_pos (by omega)]
      · rw [if_neg h1, if_neg (by omega)]
    · rw [List.getElem?_eq_none (by rw [pageK_length]; exact h), List.getElem?_eq_none (by rw [pageK_length]; exact h)]
theorem pageK_end (f : Nat → Bool) (n : Nat) (h : Wf f n) : pageK f 128 = pageL f := by
  refine List.ext_getElem? fun j => ?_
  rcases Nat.lt_or_ge j 512 with hj | hj
  · rw [pageK_get _ _ _ hj, pageL_get _ _ hj]
    congr 1
    split
    · rfl
    · next h1 => rw [byN_off f j fun i hi => h.off i (by have := h.few; omega)]; rfl
  · rw [List.getElem?_eq_none (by rw [pageK_length]; exact hj), List.getElem?_eq_none (by rw [pageL_length]; exact hj)]
theorem bcs_set' (l : List UInt8) (k : Nat) (c : UInt8) : (bcs l).toArray.setIfInBounds k (.int .u8 c.toNat) = (bcs (l.set k c)).toArray := by
  rw [List.setIfInBounds_toArray]
  congr 1
  simp [bcs, List.map_set]
/-- Bytes that are new. -/
def NewB (w w' : World) (g : Nat) (l : List UInt8) : Prop := w.heap.size ≤ g ∧ Box w' g 5 (bcs l).toArray
theorem NewB.rd {w w' : World} {g : Nat} {l : List UInt8} (h : NewB w w' g l) : Rd w' (some ⟨g, 0, none⟩) l :=
  .inr ⟨g, 0, rfl, fun j u hj => by rw [h.2.cell, Nat.zero_add]; simp [bcs_get, hj]⟩
set_option maxRecDepth 100000 in
set_option maxHeartbeats 400000 in
theorem bytes_any (f : Nat → Bool) (n : Nat) (w : World) (h : Wf f n) :
    Calls Tryd.prog 12 #[.agg (mcs f n).toArray] w fun e w' => ∃ g, e = .returned (.slice (some ⟨g, 0, none⟩) 512 512) ∧ NewB w w' g (pageL f) ∧ Kp (fun _ => False) w w' := by
  obtain ⟨W, hW, hb, hkw⟩ : ∃ W, W = w.alloc (.cells (mcs f n).toArray 27) ∧ Mp W w.heap.size f n ∧ Kp (fun _ => False) w W := ⟨_, rfl, Mp.new w f n, (Kp.refl _ w).alloc _⟩
  have HW := Lib.hid hW
  have hsz : W.heap.size = w.heap.size + 1 := by rw [hW]; simp
  have hmk : (Instr.makeSlice 39 (.int .i64 512) (.int .i64 512)).run Tryd.prog W = .ok (.slice (some ⟨W.heap.size, 0, none⟩) 512 512) (W.alloc (.cells (bcs (List.replicate 512 0)).toArray 5)) := make_bytes 512 (by decide) W
  obtain ⟨W1, hW1, hb1, hm1, hk1⟩ : ∃ W1, W1 = W.alloc (.cells (bcs (List.replicate 512 0)).toArray 5) ∧ Box W1 (w.heap.size + 1) 5 (bcs (pageK f 0)).toArray ∧ Mp W1 w.heap.size f n ∧ Kp (fun _ => False) w W1 := by
    refine ⟨_, rfl, ?_, hb.alloc _, hkw.alloc _⟩
    have := Box.new W 5 (bcs (List.replicate 512 0)).toArray
    rwa [hsz, ← pageK_zero f] at this
  rw [← hW1, hsz] at hmk
  have hend := Lib.hid (pageK_end f n h)
  have Hbw := Lib.hid (byN_wd f)
  have Hbl := Lib.hid (byN_lt f)
  have Hset := Lib.hid (pageK_set f)
  have B1 := Lib.hid hb1
  have M1 := Lib.hid hm1
  have K1 := Lib.hid hk1
  clear hb hkw hsz hW1 hb1 hm1 hk1 h hW
  go_enter Tryd.func12, Tryd.ntmps12
  go_upto_region 1 with fail
  rw [← HW.out]
  go_wp2_with fail
  clear hmk
  go_loopw [8] (fun i wr => ∃ k : Nat, k ≤ 128 ∧ i = .int .i64 k ∧ Box wr (w.heap.size + 1) 5 (bcs (pageK f k)).toArray ∧ Mp wr w.heap.size f n ∧ Kp (fun _ => False) w wr)
    (fun i _ => 128 - (intOf i).toNat)
  case atStart => exact ⟨0, Nat.zero_le _, rfl, B1.out, M1.out, K1.out⟩
  case round =>
    obtain ⟨k, hk, rfl, hb, hm, hkw⟩ := hrel
    have HB := Lib.hid hb
    have HM := Lib.hid hm
    have HK := Lib.hid hkw
    by_cases hlt : k < 128
    · have hc : wr.cell? ⟨w.heap.size + 1, k, none⟩ = some (.int .u8 0) := by
        rw [hb.cell]
        simp [bcs_get, pageK_get f k k (by omega)]
      have hf := hb.free k
      have y := HM.out.word (k * 8 / 64) (by omega)
      have hpl := Lib.hid (place_any (k * 8) wr (by omega))
      have hby := Hbw.out k
      have hbl := Lib.hid (Hbl.out k)
      have hst := Lib.hid (Hset.out k (by omega))
      have hm8 : (k : Int) * 8 = ((k * 8 : Nat) : Int) := by omega
      have Hm8 := Lib.hid hm8
      have hq : k * 8 / 64 < 16 := by omega
      have hs : k * 8 % 64 < 64 := Nat.mod_lt _ (by decide)
      clear hb hm hkw
      obtain ⟨q, hqe⟩ : ∃ q, k * 8 / 64 = q := ⟨_, rfl⟩
      obtain ⟨s, hse⟩ : ∃ s, k * 8 % 64 = s := ⟨_, rfl⟩
      rw [hqe] at hq y
      rw [hse] at hs
      rw [hqe, hse] at hpl hby
      have hxl := wd_lt f q
      obtain ⟨x, hxe⟩ : ∃ x, wd f q = x := ⟨_, rfl⟩
      rw [hxe] at y hby hxl
      have hqi : (q : Int) < 16 := by omega
      have hsi : (s : Int) < 64 := by omega
      have hb8 : ((x : Int) / 2 ^ s) % 256 = ((byN f k : Nat) : Int) := by
        rw [← hby]; simp
      obtain ⟨bb, hbb⟩ : ∃ bb, byN f k = bb := ⟨_, rfl⟩
      rw [hbb] at hb8 hbl hst
      have Hb8 := Lib.hid hb8
      clear hbb
      clear hqe hse hxe hby hm8 hb8 hxl
      go_wp2_with fail
      rw [Hm8.out]
      refine (hpl.out).mono ?_
      rintro e w' ⟨rfl, rfl⟩
      go_wp2_with fail
      go_roundw
      case rel =>
        refine ⟨k + 1, by omega, by go_num, ?_, ?_, HK.out.setCell (p := ⟨w.heap.size + 1, k, none⟩) (.inl (by simp)) _⟩
        · have := HB.out.put k (.int .u8 (UInt8.ofNat (bb)).toNat)
          rw [bcs_set', hst.out] at this
          have e : ((UInt8.ofNat (bb)).toNat : Int) = (x : Int) / 2 ^ s % 256 := by
            rw [Hb8.out, UInt8.toNat_ofNat_of_lt' (by exact hbl.out)]
          rw [e] at this
          exact this
        · exact HM.out.far (p := ⟨w.heap.size + 1, k, none⟩) (by simp) _
      case measure => simp [intOf]; omega
    · obtain rfl : k = 128 := by omega
      clear hb hm hkw
      go_wp2_with fail
      go_ret
      refine ⟨_, rfl, ⟨by omega, ?_⟩, HK.out⟩
      have := HB.out
      rwa [hend.out] at this
end Go.Proofs.YtlhfdoaknfgemaaDoor
