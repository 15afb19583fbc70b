/- The document's own words on nodes: what goes into a page, and the page of a node. No condition but a node that may be (Put). -/
import Derived.Test.YtjapnkpicefadaaNdPut
import Derived.Test.YtjapnkpicefadaaRef
namespace Go.Proofs.Ytjapnkpicefadaa
open Go.RowKit

set_option maxHeartbeats 1000000 in
theorem rcap_any (kw vw : Int) (w : World) :
    Calls Try.prog 10 #[.agg #[.int .i64 kw, .int .i64 vw]] w fun e w' => e = .returned (.int .i64 (capZ kw vw)) ∧ Kp (fun _ => False) w w' := by
  obtain ⟨W, hW, b0, k0⟩ : ∃ W, W = w.alloc (.cells #[.int .i64 kw, .int .i64 vw] 23) ∧ Box W w.heap.size 23 #[.int .i64 kw, .int .i64 vw] ∧ Kp (fun _ => False) w W := ⟨_, rfl, Box.new w _ _, (Kp.refl _ w).alloc _⟩
  have HW := Lib.hid hW
  have B0 := Lib.hid b0
  have K0 := Lib.hid k0
  clear hW b0 k0
  rcases hb : shB kw vw with _ | _
  · have HC : Hid (capZ kw vw = 0) := Lib.hid (by simp [capZ, hb])
    have HB := Lib.hid hb
    clear hb
    have y0 : W.cell? ⟨w.heap.size, 0, none⟩ = some (.int .i64 kw) := B0.out.cell 0
    have y1 : W.cell? ⟨w.heap.size, 1, none⟩ = some (.int .i64 vw) := B0.out.cell 1
    go_enter Try.func10, Try.ntmps10
    go_upto_region 1 with fail
    rw [← HW.out]
    go_upto_region 2 with fail
    refine wp_loop_rounds 1 ?_
    rw [rounds_succ]
    go_wp2_with fail
    refine (right_any _ _ _).mono ?_
    rintro e w1 ⟨rfl, k1⟩
    have K1 := Lib.hid (K0.out.trans k1)
    clear k1 y0 y1
    rw [HB.out]
    go_wp2_with fail
    go_ret
    refine ⟨?_, K1.out⟩
    rw [HC.out]
    rfl
  · obtain ⟨h1, h2, h3, h4⟩ := shB_iff.1 hb
    have HC : Hid (capZ kw vw = 508 / (kw + vw)) := Lib.hid (by simp [capZ, hb])
    have HB := Lib.hid hb
    clear hb
    obtain ⟨c, hc⟩ : ∃ c : Nat, (c : Int) = 508 / (kw + vw) := ⟨(508 / (kw + vw)).toNat, Int.toNat_of_nonneg (Int.ediv_nonneg (by omega) (by omega))⟩
    have hcm : (c : Int) * (kw + vw) ≤ 508 := cap_mul (by omega) (by omega)
    have hc5 : (c : Int) ≤ 508 := cap_le (q := kw + vw) (by omega) (by omega) (by omega)
    have hcn : 508 < ((c : Int) + 1) * (kw + vw) := by
      rw [hc]
      have := Int.lt_ediv_add_one_mul_self 508 (show 0 < kw + vw by omega)
      omega
    have HCC := Lib.hid hc
    have HCM := Lib.hid hcm
    have HCN := Lib.hid hcn
    clear hc hcm hcn
    go_enter Try.func10, Try.ntmps10
    go_upto_region 1 with fail
    rw [← HW.out]
    go_upto_region 2 with fail
    go_loopw [3] (fun sv wr => ∃ k : Nat, k ≤ c ∧ sv = .int .i64 k ∧ Kp (fun _ => False) W wr) (fun sv _ => c - (Go.RowKit.intOf sv).toNat)
    case atStart => exact ⟨0, Nat.zero_le _, rfl, Kp.refl _ _⟩
    case round =>
      obtain ⟨k, hk, rfl, hkp⟩ := hrel
      have HK := Lib.hid hkp
      have y0 : wr.cell? ⟨w.heap.size, 0, none⟩ = some (.int .i64 kw) := (B0.out.kp hkp (fun e => e)).cell 0
      have y1 : wr.cell? ⟨w.heap.size, 1, none⟩ = some (.int .i64 vw) := (B0.out.kp hkp (fun e => e)).cell 1
      clear hkp
      obtain ⟨z, hz⟩ : ∃ z : Int, ((k : Int) + 1) * (kw + vw) = z := ⟨_, rfl⟩
      have hz0 : 0 ≤ z := by rw [← hz]; exact Int.mul_nonneg (by omega) (by omega)
      have hz1 : z ≤ 100000 := by
        rw [← hz]
        exact Int.le_trans (Int.mul_le_mul (show (k : Int) + 1 ≤ 509 by omega) (show kw + vw ≤ 128 by omega) (by omega) (by omega)) (by decide)
      by_cases hlt : k < c
      · have hz5 : z ≤ 508 := by
          have h5 : ((k : Int) + 1) * (kw + vw) ≤ (c : Int) * (kw + vw) := Int.mul_le_mul_of_nonneg_right (by omega) (by omega)
          have := HCM.out
          omega
        go_wp2_with fail
        refine (right_any _ _ _).mono ?_
        rintro e w1 ⟨rfl, k1⟩
        have y0 : w1.cell? ⟨w.heap.size, 0, none⟩ = some (.int .i64 kw) := (B0.out.kp (HK.out.trans k1) (fun e => e)).cell 0
        have y1 : w1.cell? ⟨w.heap.size, 1, none⟩ = some (.int .i64 vw) := (B0.out.kp (HK.out.trans k1) (fun e => e)).cell 1
        have K1 := Lib.hid (HK.out.trans k1)
        clear k1
        rw [HB.out]
        go_wp2_with fail
        go_roundw
        case rel => exact ⟨k + 1, by omega, by go_num, K1.out⟩
        case measure => simp [Go.RowKit.intOf]; omega
      · obtain rfl : k = c := by omega
        have hz5 : ¬ z ≤ 508 := by have := HCN.out; omega
        go_wp2_with fail
        refine (right_any _ _ _).mono ?_
        rintro e w1 ⟨rfl, k1⟩
        have y0 : w1.cell? ⟨w.heap.size, 0, none⟩ = some (.int .i64 kw) := (B0.out.kp (HK.out.trans k1) (fun e => e)).cell 0
        have y1 : w1.cell? ⟨w.heap.size, 1, none⟩ = some (.int .i64 vw) := (B0.out.kp (HK.out.trans k1) (fun e => e)).cell 1
        have K1 := Lib.hid (HK.out.trans k1)
        clear k1
        rw [HB.out]
        go_wp2_with fail
        go_ret
        refine ⟨?_, K0.out.trans K1.out⟩
        rw [HC.out, ← HCC.out]
        rfl

set_option maxHeartbeats 1000000 in
theorem rfan_any (kw vw : Int) (w : World) :
    Calls Try.prog 12 #[.agg #[.int .i64 kw, .int .i64 vw]] w fun e w' => e = .returned (.int .i64 (fanZ kw vw)) ∧ Kp (fun _ => False) w w' := by
  obtain ⟨W, hW, b0, k0⟩ : ∃ W, W = w.alloc (.cells #[.int .i64 kw, .int .i64 vw] 23) ∧ Box W w.heap.size 23 #[.int .i64 kw, .int .i64 vw] ∧ Kp (fun _ => False) w W := ⟨_, rfl, Box.new w _ _, (Kp.refl _ w).alloc _⟩
  have HW := Lib.hid hW
  have B0 := Lib.hid b0
  have K0 := Lib.hid k0
  clear hW b0 k0
  have y0 : W.cell? ⟨w.heap.size, 0, none⟩ = some (.int .i64 kw) := B0.out.cell 0
  have y1 : W.cell? ⟨w.heap.size, 1, none⟩ = some (.int .i64 vw) := B0.out.cell 1
  rcases hb : shB kw vw with _ | _
  · have HC : Hid (fanZ kw vw = 0) := Lib.hid (by simp [fanZ, hb])
    have HB := Lib.hid hb
    clear hb
    go_enter Try.func12, Try.ntmps12
    go_upto_region 1 with fail
    rw [← HW.out]
    go_wp2_with fail
    refine (right_any _ _ _).mono ?_
    rintro e w1 ⟨rfl, k1⟩
    have K1 := Lib.hid (K0.out.trans k1)
    clear k1 y0 y1
    rw [HB.out]
    go_wp2_with fail
    go_ret
    refine ⟨?_, K1.out⟩
    rw [HC.out]
    rfl
  · obtain ⟨h1, h2, h3, h4⟩ := shB_iff.1 hb
    have HC : Hid (fanZ kw vw = (508 + kw) / (kw + 2)) := Lib.hid (by simp [fanZ, hb])
    have HB := Lib.hid hb
    clear hb
    obtain ⟨c, hc⟩ : ∃ c : Nat, (c : Int) = (508 + kw) / (kw + 2) := ⟨((508 + kw) / (kw + 2)).toNat, Int.toNat_of_nonneg (Int.ediv_nonneg (by omega) (by omega))⟩
    have hcm : (c : Int) * (kw + 2) ≤ 508 + kw := fan_mul (by omega) (by omega)
    have hc5 : (c : Int) ≤ 508 := fan_le (q := kw) (by omega) (by omega)
    have hcn : 508 + kw < ((c : Int) + 1) * (kw + 2) := by
      rw [hc]
      have := Int.lt_ediv_add_one_mul_self (508 + kw) (show 0 < kw + 2 by omega)
      omega
    have HCC := Lib.hid hc
    have HCM := Lib.hid hcm
    have HCN := Lib.hid hcn
    clear hc hcm hcn
    go_enter Try.func12, Try.ntmps12
    go_upto_region 1 with fail
    rw [← HW.out]
    go_wp2_with fail
    refine (right_any _ _ _).mono ?_
    rintro e w1 ⟨rfl, k1⟩
    have K1 := Lib.hid (K0.out.trans k1)
    have y0 : w1.cell? ⟨w.heap.size, 0, none⟩ = some (.int .i64 kw) := (B0.out.kp k1 (fun e => e)).cell 0
    clear k1
    rw [HB.out]
    go_upto_region 4 with fail
    go_loop [3] (fun sv => ∃ k : Nat, k ≤ c ∧ sv = .int .i64 k) (fun sv => c - (Go.RowKit.intOf sv).toNat)
    case atStart => exact ⟨0, Nat.zero_le _, rfl⟩
    case round =>
      obtain ⟨k, hk, rfl⟩ := hrel
      obtain ⟨z, hz⟩ : ∃ z : Int, (k : Int) * kw = z := ⟨_, rfl⟩
      have hz0 : 0 ≤ z := by rw [← hz]; exact Int.mul_nonneg (by omega) (by omega)
      have hz1 : z ≤ 100000 := by
        rw [← hz]
        exact Int.le_trans (Int.mul_le_mul (show (k : Int) ≤ 509 by omega) (show kw ≤ 64 by omega) (by omega) (by omega)) (by decide)
      have hex : ∀ c : Int, (c + 1) * (kw + 2) = c * kw + 2 * (c + 1) + kw := fun c => by rw [Int.add_mul, Int.mul_add, Int.mul_add]; omega
      have hexk := hex k
      have hexc := hex c
      clear hex
      by_cases hlt : k < c
      · have hz5 : 2 * ((k : Int) + 1) + z ≤ 508 := by
          have h5 : ((k : Int) + 1) * (kw + 2) ≤ (c : Int) * (kw + 2) := Int.mul_le_mul_of_nonneg_right (by omega) (by omega)
          have := HCM.out
          omega
        clear hexk hexc
        go_wp2_with fail
        go_round
        case rel => exact ⟨k + 1, by omega, by go_num⟩
        case measure => simp [Go.RowKit.intOf]; omega
      · obtain rfl : k = c := by omega
        have hz5 : ¬ 2 * ((k : Int) + 1) + z ≤ 508 := by have := HCN.out; omega
        clear hexk hexc
        go_wp2_with fail
        go_ret
        refine ⟨?_, K1.out⟩
        rw [HC.out, ← HCC.out]
        rfl

theorem byteInfo : ∃ i, Try.prog.info? 5 = some i ∧ i.zero = some (.int .u8 0) ∧ i.size = 1 ∧ i.bytes = 1 := by
  have h : (Try.prog.info? 5).map (fun i => (i.zero, i.size, i.bytes)) = some (some (.int .u8 0), 1, 1) := by kernel_rfl
  obtain ⟨i, h1, h2, h3, h4⟩ := info_parts h
  exact ⟨i, h1, h2, h3, h4⟩
theorem make_bytes (n : Nat) (h : n ≤ 512) (W : World) : (Instr.makeSlice 32 (.int .i64 n) (.int .i64 n)).run Try.prog W = .ok (.slice (some ⟨W.heap.size, 0, none⟩) n n) (W.alloc (.cells (bcs (List.replicate n 0)).toArray 5)) := by
  obtain ⟨i, i1, i2, i3, i4⟩ := byteInfo
  have := run_make (P := Try.prog) W 32 _ i _ Try.underlying32 i1 i2 .i64 .i64 n n (by omega) (by omega) (by rw [i4]; omega) (by omega)
  have e : madeCells (Value.int .u8 0).cells (((n : Int)).toNat * i.size) = (bcs (List.replicate n 0)).toArray := by
    rw [i3, Int.toNat_natCast, Nat.mul_one]
    apply Array.ext'
    rw [bcs_zeros]
    simp only
    rw [List.eq_replicate_iff]
    refine ⟨by simp [madeCells, Value.cells], fun b hb => ?_⟩
    simp only [madeCells, Value.cells, Array.toList_map, List.mem_map] at hb
    obtain ⟨k, _, rfl⟩ := hb
    simp [Nat.mod_one]
  rw [e] at this
  simpa using this
set_option maxHeartbeats 400000 in
theorem rnum_any (n : Nat) (w : World) (hn : n < 65536) :
    Calls Try.prog 28 #[.int .i64 n] w fun e w' => e = .returned (.string ⟨(beN 2 n).toArray⟩) ∧ Kp (fun _ => False) w w' := by
  have hw : IntKind.u64.wrap (n : Int) = (n : Int) := IntWalk.u64_in _ (by omega)
  go_enter Try.func28, Try.ntmps28
  go_wp2_with fail
  refine (num_fine2 n w (by omega)).mono ?_
  rintro e w1 ⟨rfl, k1⟩
  have K1 := Lib.hid k1
  clear k1 hw
  go_wp2_with fail
  go_ret
  exact ⟨rfl, K1.out⟩

theorem cat_byt (l : List UInt8) (s : ByteArray) : (⟨l.toArray⟩ ++ s : ByteArray) = ⟨(l ++ byt s).toArray⟩ := by
  have := text_cat l (byt s)
  rwa [mk_byt] at this
theorem cat_len (l : List UInt8) : (⟨l.toArray⟩ : ByteArray).size = l.length := by
  show l.toArray.size = _
  simp
set_option maxRecDepth 100000 in
set_option maxHeartbeats 4000000 in
theorem rput_any (kw vw : Int) (n : Nd) (p : Pl) (w : World) (h : NdR w n p) (hok : okB kw vw n = true) :
    Calls Try.prog 17 #[.agg #[.int .i64 kw, .int .i64 vw], .agg (ncs n p)] w fun e w' => e = .returned (.string ⟨(pageL n).toArray⟩) ∧ Kp (fun _ => False) w w' := by
  obtain ⟨W, hW, b1, k0⟩ : ∃ W, W = (w.alloc (.cells #[.int .i64 kw, .int .i64 vw] 23)).alloc (.cells (ncs n p) 27) ∧ Box W (w.heap.size + 1) 27 (ncs n p) ∧ Kp (fun _ => False) w W := ⟨_, rfl, by simpa using Box.new (w.alloc (.cells #[.int .i64 kw, .int .i64 vw] 23)) 27 (ncs n p), ((Kp.refl _ w).alloc _).alloc _⟩
  have HW := Lib.hid hW
  have K0 := Lib.hid k0
  have HF : Hid (∀ v, Kp (fun _ => False) W v → v.cell? ⟨w.heap.size + 1, 0, none⟩ = some (.bool n.leaf) ∧ v.cell? ⟨w.heap.size + 1, 1, none⟩ = some (.slice p.k n.keys.length p.ck) ∧ v.cell? ⟨w.heap.size + 1, 2, none⟩ = some (.slice p.v n.vals.length p.cv) ∧ v.cell? ⟨w.heap.size + 1, 3, none⟩ = some (.slice p.c n.kids.length p.cc)) := Lib.hid fun v hv =>
    ⟨(b1.kp hv (fun h => h)).cell 0, (b1.kp hv (fun h => h)).cell 1, (b1.kp hv (fun h => h)).cell 2, (b1.kp hv (fun h => h)).cell 3⟩
  have HR : Hid (∀ v, Kp (fun _ => False) W v → NdR v n p) := Lib.hid fun v hv => h.still (k0.trans hv)
  have HOK := Lib.hid hok
  obtain ⟨hk1, hk2, hk3⟩ := okB_keys hok
  have HVL : Hid (n.leaf = true → n.vals.length = n.keys.length) := Lib.hid fun hl => (okB_leaf hok hl).2.2.1
  have HKD : Hid (∀ c ∈ n.kids, 1 ≤ c ∧ c < 1024) := Lib.hid (by
    rcases hl : n.leaf with _ | _
    · exact (okB_inner hok hl).2.2.2.2.2.1
    · rw [(okB_leaf hok hl).2.2.2.1]
      intro c hc
      cases hc)
  clear hok hW b1 k0 h
  obtain ⟨y0, y1, y2, y3⟩ := HF.out W (Kp.refl _ _)
  rcases hl : n.leaf with _ | _
  · rw [hl] at y0
    have HLF := Lib.hid hl
    clear hl
    go_enter Try.func17, Try.ntmps17
    go_upto_region 1 with fail
    rw [← HW.out]
    clear y2 y3
    go_wp2_with fail
    refine (rnum_any n.keys.length _ (by omega)).mono ?_
    rintro e w1 ⟨rfl, k1⟩
    have K1 := Lib.hid k1
    clear k1 y0 y1
    obtain ⟨y0, y1, y2, y3⟩ := HF.out w1 K1.out
    rw [HLF.out] at y0
    clear y2 y3
    have hbz := beN_length 2 n.keys.length
    have hsz : (⟨(beN 2 n.keys.length).toArray⟩ : ByteArray).size ≤ 2 := by rw [cat_len, hbz]; omega
    clear hbz
    have K2 := K1
    obtain ⟨w2, hw2⟩ : ∃ w2, w2 = w1 := ⟨_, rfl⟩
    subst hw2
    have HHD : Hid ((⟨#[2, 0]⟩ ++ ⟨(beN 2 n.keys.length).toArray⟩ : ByteArray) = ⟨(headL n).toArray⟩) := Lib.hid (by
      have := text_cat [2, 0] (beN 2 n.keys.length)
      have e : headL n = [2, 0] ++ beN 2 n.keys.length := by simp [headL, kindN, HLF.out, beN]
      rw [e]
      exact this)
    go_upto_region 5 with fail
    try clear y0 y1
    clear hsz
    rw [HHD.out]
    go_loopw [6, 5] (fun sv st wr => ∃ k : Nat, k ≤ n.kids.length ∧ sv = .int .i64 k ∧ st = .string ⟨(headL n ++ kidL (n.kids.take k)).toArray⟩ ∧ Kp (fun _ => False) W wr) (fun sv _ _ => n.kids.length - (Go.RowKit.intOf sv).toNat)
    case atStart => exact ⟨0, Nat.zero_le _, rfl, by simp [kidL], K2.out⟩
    case round =>
      obtain ⟨k, hk, rfl, rfl, hkp⟩ := hrel
      have HK := Lib.hid hkp
      clear hkp
      obtain ⟨y0, y1, y2, y3⟩ := HF.out wr HK.out
      clear y0 y1 y2
      by_cases hlt : k < n.kids.length
      · obtain ⟨x, hx⟩ : ∃ x, n.kids[k]? = some x := ⟨_, List.getElem?_eq_getElem hlt⟩
        obtain ⟨b, o, hA, y⟩ := (HR.out wr HK.out).c.at (its_get hx)
        obtain ⟨hb1, hb2⟩ := HKD.out x (List.mem_of_getElem? hx)
        obtain ⟨c, rfl⟩ : ∃ c : Nat, x = c := ⟨x.toNat, by omega⟩
        have HX := Lib.hid (kidL_snoc hx)
        rw [hA] at y3
        have hs1 : (⟨(beN 2 c).toArray⟩ : ByteArray).size ≤ 2 := by rw [cat_len, beN_length]; omega
        have hs2 : (⟨(headL n ++ kidL (n.kids.take k)).toArray⟩ : ByteArray).size ≤ 1020 := by rw [cat_len]; simp only [List.length_append, headL_len, kidL_len, List.length_take]; omega
        obtain ⟨L0, hL0⟩ : ∃ L0, L0 = headL n ++ kidL (n.kids.take k) := ⟨_, rfl⟩
        have HL0 := Lib.hid hL0
        rw [← hL0] at hs2 ⊢
        clear hx hA hL0
        go_wp2_with fail
        refine (rnum_any c _ (by omega)).mono ?_
        rintro e w3 ⟨rfl, k3⟩
        have K3 := Lib.hid (HK.out.trans k3)
        clear k3 y y3
        go_wp2_with fail
        go_roundw
        case rel => exact ⟨k + 1, by omega, by go_num, by rw [text_cat, HL0.out, HX.out, List.append_assoc], K3.out⟩
        case measure => simp [Go.RowKit.intOf]; omega
      · obtain rfl : k = n.kids.length := by omega
        rw [List.take_length]
        obtain ⟨wa, hwa⟩ : ∃ wa, wa = wr := ⟨_, rfl⟩
        subst hwa
        go_upto_region 9 with fail
        clear y3 hlt hk
        obtain ⟨y0, y1, y2, y3⟩ := HF.out wa HK.out
        clear y2 y3
        rw [HLF.out] at y0
        go_loop [7, 5] (fun sv st => ∃ k : Nat, k ≤ n.keys.length ∧ sv = .int .i64 k ∧ st = .string ⟨(headL n ++ kidL n.kids ++ preL n k).toArray⟩) (fun sv _ => n.keys.length - (Go.RowKit.intOf sv).toNat)
        case atStart => exact ⟨0, Nat.zero_le _, rfl, by simp [preL, HLF.out, keyL]⟩
        case round =>
          obtain ⟨j, hj, rfl, rfl⟩ := hrel
          by_cases hlt : j < n.keys.length
          · obtain ⟨x, hx⟩ : ∃ x, n.keys[j]? = some x := ⟨_, List.getElem?_eq_getElem hlt⟩
            obtain ⟨b, o, hA, y⟩ := (HR.out wa HK.out).k.at (sts_get hx)
            rw [hA] at y1
            have HX := Lib.hid hx
            have hxs : x.size ≤ 64 := by obtain ⟨hs, _, _, _, _, _, h5⟩ := okB_inner HOK.out HLF.out; have := keysB_sizes h5 x (List.mem_of_getElem? hx); omega
            have hs2 : (⟨(headL n ++ kidL n.kids ++ preL n j).toArray⟩ : ByteArray).size ≤ 70000 := by have := preL_len HOK.out j; rw [cat_len]; simp only [List.length_append, headL_len, kidL_len]; omega
            obtain ⟨L0, hL0⟩ : ∃ L0, L0 = headL n ++ kidL n.kids ++ preL n j := ⟨_, rfl⟩
            have HL0 := Lib.hid hL0
            rw [← hL0] at hs2 ⊢
            clear hx hA hL0
            go_wp2_with fail
            go_round
            case rel => exact ⟨j + 1, by omega, by go_num, by rw [cat_byt, HL0.out, preL_inner HLF.out HX.out, List.append_assoc (headL n ++ kidL n.kids)]⟩
            case measure => simp [Go.RowKit.intOf]; omega
          · obtain rfl : j = n.keys.length := by omega
            have HE : Hid (headL n ++ kidL n.kids ++ preL n n.keys.length = wordL n) := Lib.hid (by rw [preL_all HVL.out, List.append_assoc]; rfl)
            rw [HE.out]
            have hwl := word_le HOK.out
            obtain ⟨q, hq⟩ : ∃ q : Nat, (wordL n).length + q = 512 := ⟨512 - (wordL n).length, by omega⟩
            have hpg : wordL n ++ List.replicate q 0 = pageL n := by unfold pageL; rw [show 512 - (wordL n).length = q by omega]
            have hsz : (⟨(wordL n).toArray⟩ : ByteArray).size = (wordL n).length := cat_len _
            have hsub : IntKind.i64.wrap ((512 : Int) - (wordL n).length) = (q : Int) := by rw [IntWalk.i64_in _ (by omega)]; omega
            have HPG := Lib.hid hpg
            clear hpg y0 hlt hj
            obtain ⟨wl, hwl2⟩ : ∃ wl, wl = (wordL n).length := ⟨_, rfl⟩
            rw [← hwl2] at hsz hsub hwl hq
            clear hwl2
            have hmk := fun W => make_bytes q (by omega) W
            have hcv := fun W : World => (rd_new W (List.replicate q 0) 5).text (P := Try.prog) 32 9 5 q Try.underlying32 Try.underlying5 Try.underlying9
            simp only [List.length_replicate] at hcv
            have hs4 : (⟨(List.replicate q (0 : UInt8)).toArray⟩ : ByteArray).size = q := by rw [cat_len, List.length_replicate]
            have HTC := Lib.hid (text_cat (wordL n) (List.replicate q 0))
            go_wp2_with fail
            go_ret
            refine ⟨?_, K0.out.trans (HK.out.alloc _)⟩
            show Ending.returned (Value.string ((⟨(wordL n).toArray⟩ : ByteArray) ++ ⟨(List.replicate q 0).toArray⟩)) = _
            rw [HTC.out, HPG.out]
  · rw [hl] at y0
    have HLF := Lib.hid hl
    clear hl
    go_enter Try.func17, Try.ntmps17
    go_upto_region 1 with fail
    rw [← HW.out]
    clear y2 y3
    go_wp2_with fail
    refine (rnum_any n.keys.length _ (by omega)).mono ?_
    rintro e w1 ⟨rfl, k1⟩
    have K1 := Lib.hid k1
    clear k1 y0 y1
    obtain ⟨y0, y1, y2, y3⟩ := HF.out w1 K1.out
    rw [HLF.out] at y0
    clear y2 y3
    have hbz := beN_length 2 n.keys.length
    have hsz : (⟨(beN 2 n.keys.length).toArray⟩ : ByteArray).size ≤ 2 := by rw [cat_len, hbz]; omega
    clear hbz
    go_wp2_with fail
    refine (rnum_any n.keys.length _ (by omega)).mono ?_
    rintro e w2 ⟨rfl, k2⟩
    have K2 := Lib.hid (K1.out.trans k2)
    clear k2 y0 y1
    have HHD : Hid ((⟨#[1, 0]⟩ ++ ⟨(beN 2 n.keys.length).toArray⟩ : ByteArray) = ⟨(headL n).toArray⟩) := Lib.hid (by
      have := text_cat [1, 0] (beN 2 n.keys.length)
      have e : headL n = [1, 0] ++ beN 2 n.keys.length := by simp [headL, kindN, HLF.out, beN]
      rw [e]
      exact this)
    go_upto_region 5 with fail
    try clear y0 y1
    clear hsz
    rw [HHD.out]
    go_loopw [6, 5] (fun sv st wr => ∃ k : Nat, k ≤ n.kids.length ∧ sv = .int .i64 k ∧ st = .string ⟨(headL n ++ kidL (n.kids.take k)).toArray⟩ ∧ Kp (fun _ => False) W wr) (fun sv _ _ => n.kids.length - (Go.RowKit.intOf sv).toNat)
    case atStart => exact ⟨0, Nat.zero_le _, rfl, by simp [kidL], K2.out⟩
    case round =>
      obtain ⟨k, hk, rfl, rfl, hkp⟩ := hrel
      have HK := Lib.hid hkp
      clear hkp
      obtain ⟨y0, y1, y2, y3⟩ := HF.out wr HK.out
      clear y0 y1 y2
      by_cases hlt : k < n.kids.length
      · obtain ⟨x, hx⟩ : ∃ x, n.kids[k]? = some x := ⟨_, List.getElem?_eq_getElem hlt⟩
        obtain ⟨b, o, hA, y⟩ := (HR.out wr HK.out).c.at (its_get hx)
        obtain ⟨hb1, hb2⟩ := HKD.out x (List.mem_of_getElem? hx)
        obtain ⟨c, rfl⟩ : ∃ c : Nat, x = c := ⟨x.toNat, by omega⟩
        have HX := Lib.hid (kidL_snoc hx)
        rw [hA] at y3
        have hs1 : (⟨(beN 2 c).toArray⟩ : ByteArray).size ≤ 2 := by rw [cat_len, beN_length]; omega
        have hs2 : (⟨(headL n ++ kidL (n.kids.take k)).toArray⟩ : ByteArray).size ≤ 1020 := by rw [cat_len]; simp only [List.length_append, headL_len, kidL_len, List.length_take]; omega
        obtain ⟨L0, hL0⟩ : ∃ L0, L0 = headL n ++ kidL (n.kids.take k) := ⟨_, rfl⟩
        have HL0 := Lib.hid hL0
        rw [← hL0] at hs2 ⊢
        clear hx hA hL0
        go_wp2_with fail
        refine (rnum_any c _ (by omega)).mono ?_
        rintro e w3 ⟨rfl, k3⟩
        have K3 := Lib.hid (HK.out.trans k3)
        clear k3 y y3
        go_wp2_with fail
        go_roundw
        case rel => exact ⟨k + 1, by omega, by go_num, by rw [text_cat, HL0.out, HX.out, List.append_assoc], K3.out⟩
        case measure => simp [Go.RowKit.intOf]; omega
      · obtain rfl : k = n.kids.length := by omega
        rw [List.take_length]
        obtain ⟨wa, hwa⟩ : ∃ wa, wa = wr := ⟨_, rfl⟩
        subst hwa
        go_upto_region 9 with fail
        clear y3 hlt hk
        obtain ⟨y0, y1, y2, y3⟩ := HF.out wa HK.out
        clear y3
        rw [HLF.out] at y0
        go_loop [7, 5] (fun sv st => ∃ k : Nat, k ≤ n.keys.length ∧ sv = .int .i64 k ∧ st = .string ⟨(headL n ++ kidL n.kids ++ preL n k).toArray⟩) (fun sv _ => n.keys.length - (Go.RowKit.intOf sv).toNat)
        case atStart => exact ⟨0, Nat.zero_le _, rfl, by simp [preL, HLF.out, entL]⟩
        case round =>
          obtain ⟨j, hj, rfl, rfl⟩ := hrel
          by_cases hlt : j < n.keys.length
          · obtain ⟨x, hx⟩ : ∃ x, n.keys[j]? = some x := ⟨_, List.getElem?_eq_getElem hlt⟩
            obtain ⟨b, o, hA, y⟩ := (HR.out wa HK.out).k.at (sts_get hx)
            rw [hA] at y1
            have HX := Lib.hid hx
            have hxs : x.size ≤ 64 := by obtain ⟨hs, _, _, _, _, h5⟩ := okB_leaf HOK.out HLF.out; have := keysB_sizes h5 x (List.mem_of_getElem? hx); omega
            have hs2 : (⟨(headL n ++ kidL n.kids ++ preL n j).toArray⟩ : ByteArray).size ≤ 70000 := by have := preL_len HOK.out j; rw [cat_len]; simp only [List.length_append, headL_len, kidL_len]; omega
            obtain ⟨L0, hL0⟩ : ∃ L0, L0 = headL n ++ kidL n.kids ++ preL n j := ⟨_, rfl⟩
            have HL0 := Lib.hid hL0
            rw [← hL0] at hs2 ⊢
            clear hx hA hL0
            obtain ⟨v, hv⟩ : ∃ v, n.vals[j]? = some v := ⟨_, List.getElem?_eq_getElem (by rw [HVL.out HLF.out]; exact hlt)⟩
            obtain ⟨b2, o2, hA2, yv⟩ := (HR.out wa HK.out).v.at (sts_get hv)
            rw [hA2] at y2
            have HV := Lib.hid hv
            have hvs : v.size ≤ 64 := by obtain ⟨hs, _, _, _, h4, _⟩ := okB_leaf HOK.out HLF.out; have := h4 v (List.mem_of_getElem? hv); omega
            have hjv : j < n.vals.length := by rw [HVL.out HLF.out]; exact hlt
            have hs3 : (⟨L0.toArray⟩ ++ x : ByteArray).size ≤ 70100 := by rw [ByteArray.size_append]; omega
            clear hv hA2
            go_wp2_with fail
            go_round
            case rel => exact ⟨j + 1, by omega, by go_num, by rw [cat_byt, cat_byt, HL0.out, preL_leaf HLF.out HX.out HV.out]; simp only [List.append_assoc]⟩
            case measure => simp [Go.RowKit.intOf]; omega
          · obtain rfl : j = n.keys.length := by omega
            have HE : Hid (headL n ++ kidL n.kids ++ preL n n.keys.length = wordL n) := Lib.hid (by rw [preL_all HVL.out, List.append_assoc]; rfl)
            rw [HE.out]
            have hwl := word_le HOK.out
            obtain ⟨q, hq⟩ : ∃ q : Nat, (wordL n).length + q = 512 := ⟨512 - (wordL n).length, by omega⟩
            have hpg : wordL n ++ List.replicate q 0 = pageL n := by unfold pageL; rw [show 512 - (wordL n).length = q by omega]
            have hsz : (⟨(wordL n).toArray⟩ : ByteArray).size = (wordL n).length := cat_len _
            have hsub : IntKind.i64.wrap ((512 : Int) - (wordL n).length) = (q : Int) := by rw [IntWalk.i64_in _ (by omega)]; omega
            have HPG := Lib.hid hpg
            clear hpg y0 hlt hj
            obtain ⟨wl, hwl2⟩ : ∃ wl, wl = (wordL n).length := ⟨_, rfl⟩
            rw [← hwl2] at hsz hsub hwl hq
            clear hwl2
            have hmk := fun W => make_bytes q (by omega) W
            have hcv := fun W : World => (rd_new W (List.replicate q 0) 5).text (P := Try.prog) 32 9 5 q Try.underlying32 Try.underlying5 Try.underlying9
            simp only [List.length_replicate] at hcv
            have hs4 : (⟨(List.replicate q (0 : UInt8)).toArray⟩ : ByteArray).size = q := by rw [cat_len, List.length_replicate]
            have HTC := Lib.hid (text_cat (wordL n) (List.replicate q 0))
            go_wp2_with fail
            go_ret
            refine ⟨?_, K0.out.trans (HK.out.alloc _)⟩
            show Ending.returned (Value.string ((⟨(wordL n).toArray⟩ : ByteArray) ++ ⟨(List.replicate q 0).toArray⟩)) = _
            rw [HTC.out, HPG.out]
end Go.Proofs.Ytjapnkpicefadaa
