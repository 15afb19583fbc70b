/- Whether a node may be, in the document's own words. No condition. -/
import Derived.Test.YtjapnkpicefadaaNdRef
namespace Go.Proofs.Ytjapnkpicefadaa
open Go.RowKit

theorem bl_total : ∀ x y : List UInt8, (Go.Op.bytesLess y x || (y == x)) = !Go.Op.bytesLess x y
  | [], [] => rfl
  | [], _ :: _ => rfl
  | _ :: _, [] => rfl
  | a :: x, b :: y => by
    have ih := bl_total x y
    simp only [Go.Op.bytesLess, List.cons_beq_cons]
    rcases Nat.lt_trichotomy a.toNat b.toNat with h | h | h
    · have h1 : decide (a < b) = true := by rw [decide_eq_true_eq, UInt8.lt_iff_toNat_lt]; exact h
      have h2 : decide (b < a) = false := by rw [decide_eq_false_iff_not, UInt8.lt_iff_toNat_lt]; omega
      have h3 : (b == a) = false := by rw [beq_eq_false_iff_ne]; rintro rfl; omega
      rw [h1, h2, h3]
      rfl
    · obtain rfl : a = b := UInt8.toNat_inj.1 h
      have h1 : decide (a < a) = false := by rw [decide_eq_false_iff_not, UInt8.lt_iff_toNat_lt]; omega
      rw [h1, beq_self_eq_true]
      simpa using ih
    · have h1 : decide (a < b) = false := by rw [decide_eq_false_iff_not, UInt8.lt_iff_toNat_lt]; omega
      have h2 : decide (b < a) = true := by rw [decide_eq_true_eq, UInt8.lt_iff_toNat_lt]; exact h
      have h3 : (a == b) = false := by rw [beq_eq_false_iff_ne]; rintro rfl; omega
      rw [h1, h2, h3]
      rfl
theorem ble_not (a b : ByteArray) : ble b a = !bls a b := bl_total a.toList b.toList
theorem ky_first {kw : Int} (hk : 1 ≤ kw) (x : ByteArray) (hx : (x.size : Int) = kw) : kyB kw ⟨#[]⟩ x = true := by
  have h0 : ble x ⟨#[]⟩ = false := by
    unfold ble bls
    have e : (⟨#[]⟩ : ByteArray).toList = [] := by rw [toList_byt]; rfl
    rw [e]
    have h1 : Go.Op.bytesLess x.toList [] = false := by cases x.toList <;> rfl
    rw [h1, Bool.false_or, toList_byt]
    have h2 := byt_len x
    cases hb : byt x with
    | nil => rw [hb] at h2; simp only [List.length_nil] at h2; omega
    | cons a r => rfl
  simp [kyB, h0, hx]
theorem ky_next (kw : Int) (p x : ByteArray) : kyB kw p x = (bls p x && ((x.size : Int) == kw)) := by
  unfold kyB
  rw [ble_not, Bool.not_not]
theorem okB_keyno {kw vw : Int} {n : Nd} (h : keysB kw ⟨#[]⟩ n.keys = false) : okB kw vw n = false := by
  unfold okB hasB
  rw [h, Bool.and_false, Bool.and_false, ite_self, Bool.and_false]
theorem keysB_no {kw : Int} {p : ByteArray} {l : List ByteArray} {j : Nat} {x : ByteArray} (hx : l[j]? = some x) (h : kyB kw (prevK p l j) x = false) : keysB kw p l = false := by
  rcases hq : keysB kw p l with _ | _
  · rfl
  · have := keysB_iff.1 hq j x hx
    rw [h] at this
    cases this
theorem okB_leaf_eq {kw vw : Int} {n : Nd} (hb : shB kw vw = true) (hl : n.leaf = true) (hk : keysB kw ⟨#[]⟩ n.keys = true) (hv : valsB vw n.vals = true) :
    okB kw vw n = (((n.kids.length : Int) == 0) && ((n.vals.length : Int) == (n.keys.length : Int)) && decide ((n.keys.length : Int) ≤ capZ kw vw)) := by
  unfold okB hasB leafB
  rw [hb, if_pos hl, hk, hv]
  generalize decide ((n.keys.length : Int) ≤ capZ kw vw) = a
  generalize ((n.vals.length : Int) == (n.keys.length : Int)) = b
  generalize ((n.kids.length : Int) == 0) = c
  cases a <;> cases b <;> cases c <;> rfl
theorem okB_inner_eq {kw vw : Int} {n : Nd} (hb : shB kw vw = true) (hl : n.leaf = false) (hk : keysB kw ⟨#[]⟩ n.keys = true) (hd : kidsB n.kids = true) :
    okB kw vw n = (((n.vals.length : Int) == 0) && decide ((0 : Int) < (n.keys.length : Int)) && ((n.kids.length : Int) == (n.keys.length : Int) + 1) && decide ((n.kids.length : Int) ≤ fanZ kw vw)) := by
  unfold okB hasB innerB
  rw [hb, hl, if_neg Bool.false_ne_true, hk, hd]
  generalize n.keys.length = nk
  generalize n.vals.length = nv
  generalize n.kids.length = nc
  generalize fanZ kw vw = f
  rw [Bool.eq_iff_iff]
  simp only [Bool.and_eq_true, Bool.true_and, Bool.and_true, decide_eq_true_eq, beq_iff_eq]
  omega
theorem okB_valno {kw vw : Int} {n : Nd} (hl : n.leaf = true) (h : valsB vw n.vals = false) : okB kw vw n = false := by
  unfold okB hasB leafB
  rw [if_pos hl, h, Bool.and_false, Bool.false_and, Bool.and_false]
theorem okB_kidno {kw vw : Int} {n : Nd} (hl : n.leaf = false) (h : kidsB n.kids = false) : okB kw vw n = false := by
  unfold okB hasB innerB
  rw [hl, if_neg Bool.false_ne_true, h, Bool.and_false, Bool.false_and, Bool.and_false]

set_option maxRecDepth 100000 in
set_option maxHeartbeats 8000000 in
theorem rmay_any (kw vw : Int) (n : Nd) (p : Pl) (w : World) (h : NdR w n p) (h6 : n.keys.length ≤ 600) :
    Calls Try.prog 15 #[.agg #[.int .i64 kw, .int .i64 vw], .agg (ncs n p)] w fun e w' => e = .returned (.bool (okB kw vw n)) ∧ Kp (fun _ => False) w w' := by
  obtain ⟨W, hW, b0, b1, k0⟩ : ∃ W, W = (w.alloc (.cells #[.int .i64 kw, .int .i64 vw] 23)).alloc (.cells (ncs n p) 27) ∧ Box W w.heap.size 23 #[.int .i64 kw, .int .i64 vw] ∧ Box W (w.heap.size + 1) 27 (ncs n p) ∧ Kp (fun _ => False) w W := ⟨_, rfl, (Box.new w _ _).alloc _, by simpa using Box.new (w.alloc (.cells #[.int .i64 kw, .int .i64 vw] 23)) 27 (ncs n p), ((Kp.refl _ w).alloc _).alloc _⟩
  have HW := Lib.hid hW
  have K0 := Lib.hid k0
  obtain ⟨nk, hnk⟩ : ∃ nk, nk = n.keys.length := ⟨_, rfl⟩
  obtain ⟨nv, hnv⟩ : ∃ nv, nv = n.vals.length := ⟨_, rfl⟩
  obtain ⟨nc, hnc⟩ : ∃ nc, nc = n.kids.length := ⟨_, rfl⟩
  have hbk : nk ≤ 9223372036854775807 := by have := h.lk; unfold maxLen at this; omega
  have hbv : nv ≤ 9223372036854775807 := by have := h.lv; unfold maxLen at this; omega
  have hbc : nc ≤ 9223372036854775807 := by have := h.lc; unfold maxLen at this; omega
  have HF : Hid (∀ v, Kp (fun _ => False) W v → v.cell? ⟨w.heap.size, 0, none⟩ = some (.int .i64 kw) ∧ v.cell? ⟨w.heap.size, 1, none⟩ = some (.int .i64 vw) ∧ v.cell? ⟨w.heap.size + 1, 0, none⟩ = some (.bool n.leaf) ∧ v.cell? ⟨w.heap.size + 1, 1, none⟩ = some (.slice p.k nk p.ck) ∧ v.cell? ⟨w.heap.size + 1, 2, none⟩ = some (.slice p.v nv p.cv) ∧ v.cell? ⟨w.heap.size + 1, 3, none⟩ = some (.slice p.c nc p.cc)) := Lib.hid fun v hv => by
    rw [hnk, hnv, hnc]
    exact ⟨(b0.kp hv (fun h => h)).cell 0, (b0.kp hv (fun h => h)).cell 1, (b1.kp hv (fun h => h)).cell 0, (b1.kp hv (fun h => h)).cell 1, (b1.kp hv (fun h => h)).cell 2, (b1.kp hv (fun h => h)).cell 3⟩
  have HS : Hid (∀ v, Kp (fun _ => False) W v → Box v w.heap.size 23 #[.int .i64 kw, .int .i64 vw]) := Lib.hid fun v hv => b0.kp hv (fun h => h)
  have HR : Hid (∀ v, Kp (fun _ => False) W v → NdR v n p) := Lib.hid fun v hv => h.still (k0.trans hv)
  have h600 : Hid (nk ≤ 600) := Lib.hid (by omega)
  have HNK := Lib.hid hnk
  have HNV := Lib.hid hnv
  have HNC := Lib.hid hnc
  clear hW b0 b1 k0 h hnk hnv hnc
  obtain ⟨y0, y1, y2, y3, y4, y5⟩ := HF.out W (Kp.refl _ _)
  rcases hb : shB kw vw with _ | _
  · have HE : Hid (okB kw vw n = false) := Lib.hid (by unfold okB; rw [hb]; rfl)
    have HB := Lib.hid hb
    clear hb
    go_enter Try.func15, Try.ntmps15
    go_upto_region 1 with fail
    rw [← HW.out]
    go_wp2_with fail
    refine (right_any _ _ _).mono ?_
    rintro e w1 ⟨rfl, k1⟩
    have K1 := Lib.hid (K0.out.trans k1)
    clear k1 y0 y1 y2 y3 y4 y5
    rw [HB.out]
    go_wp2_with fail
    go_ret
    refine ⟨?_, K1.out⟩
    rw [HE.out]
    rfl
  · have hkw : 1 ≤ kw := (shB_iff.1 hb).1
    have HKW := Lib.hid hkw
    have HB := Lib.hid hb
    clear hb hkw
    go_enter Try.func15, Try.ntmps15
    go_upto_region 1 with fail
    rw [← HW.out]
    go_wp2_with fail
    refine (right_any _ _ _).mono ?_
    rintro e w1 ⟨rfl, k1⟩
    have K1 := Lib.hid k1
    clear k1 y0 y1 y2 y3 y4 y5
    rw [HB.out]
    go_upto_region 4 with fail
    go_loopw [5] (fun sv wr => ∃ k : Nat, k ≤ nk ∧ sv = .int .i64 k ∧ (∀ j x, j < k → n.keys[j]? = some x → kyB kw (prevK ⟨#[]⟩ n.keys j) x = true) ∧ Kp (fun _ => False) W wr) (fun sv _ => nk - (Go.RowKit.intOf sv).toNat)
    case atStart => exact ⟨0, Nat.zero_le _, rfl, fun j x hj => by omega, K1.out⟩
    case round =>
      obtain ⟨k, hk, rfl, ht, hkp⟩ := hrel
      have HT := Lib.hid ht
      have HK := Lib.hid hkp
      clear ht hkp
      obtain ⟨y0, y1, y2, y3, y4, y5⟩ := HF.out wr HK.out
      clear y0 y1 y4 y5
      by_cases hlt : k < nk
      · obtain ⟨x, hx⟩ : ∃ x, n.keys[k]? = some x := ⟨_, List.getElem?_eq_getElem (by rw [← HNK.out]; exact hlt)⟩
        obtain ⟨b, o, hA, yx⟩ := (HR.out wr HK.out).k.at (sts_get hx)
        have HX := Lib.hid hx
        have HA := Lib.hid hA
        have YX := Lib.hid yx
        clear hx hA yx
        go_upto_region 6 with fail
        clear y2 y3
        have hd : decide ((k : Int) < (nk : Int)) = true := by simpa using hlt
        have hd' : decide (k < nk) = true := by simpa using hlt
        rcases hs : ((x.size : Int) != kw) with _ | _
        · have hsz : (x.size : Int) = kw := by simpa using hs
          have HSZ := Lib.hid hsz
          clear hsz
          rcases Nat.eq_zero_or_pos k with h0 | h0
          · have hg0 : decide ((0 : Int) < (k : Int)) = false := by simp; omega
            have hg1 : decide (0 < k) = false := by simp; omega
            have H0 := Lib.hid h0
            clear h0
            refine wp_region_quiet (C := fun v => Kp (fun _ => False) (wr) v) (by kernel_rfl) (by kernel_rfl) ((Kp.refl _ _).drew) (Wq.out ?_)
            refine qtk (h := ?_)
            refine qtk (hy := fun v hv => by (obtain ⟨y0, y1, y2, y3, y4, y5⟩ := HF.out v (HK.out.trans hv); have yx := (hv.cell (p := ⟨b, o + k, none⟩) (World.block_lt_of_cell? wr ⟨b, o + k, none⟩ YX.out) (fun h => h)).trans YX.out; rw [HA.out] at y3; unfold Oper.quietAt; go_simp; with_reducible rfl)) (h := ?_)
            refine qtk (h := ?_)
            refine qtk (h := ?_)
            refine qtk (hy := fun v hv => by (obtain ⟨y0, y1, y2, y3, y4, y5⟩ := HF.out v (HK.out.trans hv); have yx := (hv.cell (p := ⟨b, o + k, none⟩) (World.block_lt_of_cell? wr ⟨b, o + k, none⟩ YX.out) (fun h => h)).trans YX.out; rw [HA.out] at y3; unfold Oper.quietAt; go_simp; with_reducible rfl)) (h := ?_)
            refine qtk (h := ?_)
            refine qtk (h := ?_)
            refine qtk (hy := fun v hv => by (obtain ⟨y0, y1, y2, y3, y4, y5⟩ := HF.out v (HK.out.trans hv); have yx := (hv.cell (p := ⟨b, o + k, none⟩) (World.block_lt_of_cell? wr ⟨b, o + k, none⟩ YX.out) (fun h => h)).trans YX.out; rw [HA.out] at y3; unfold Oper.quietAt; go_simp; with_reducible rfl)) (h := ?_)
            refine qtk (h := ?_)
            refine qtk (h := ?_)
            refine qtk (h := ?_)
            refine qtk (h := ?_)
            refine qtk (h := ?_)
            refine qsk (h := ?_)
            refine qsk (h := ?_)
            refine qsk (h := ?_)
            refine qsk (h := ?_)
            refine qsk (h := ?_)
            refine qsk (h := ?_)
            refine qsk (h := ?_)
            refine qsk (h := ?_)
            refine qsk (h := ?_)
            refine qsk (h := ?_)
            refine qsk (h := ?_)
            refine qsk (h := ?_)
            refine qtk (h := ?_)
            refine qtk (h := ?_)
            refine Wq.mk (wpQuiet_nil ?_)
            intro w2 hw2
            have K2 := Lib.hid (HK.out.trans hw2)
            clear hw2 hs hg0 hg1 hd hd'
            go_wp2_with fail
            go_roundw
            case rel => exact ⟨k + 1, by omega, by go_num, fun j z hj hz => by
              obtain rfl : j = k := by have := H0.out; omega
              rw [HX.out] at hz
              cases hz
              have := ky_first HKW.out x HSZ.out
              rw [H0.out]
              exact this, K2.out⟩
            case measure => simp [Go.RowKit.intOf]; omega
          · obtain ⟨j, hjk⟩ : ∃ j, k = j + 1 := ⟨k - 1, by omega⟩
            obtain ⟨q, hq⟩ : ∃ q, n.keys[j]? = some q := ⟨_, List.getElem?_eq_getElem (by rw [← HNK.out]; omega)⟩
            obtain ⟨b2, o2, hA2, yp⟩ := (HR.out wr HK.out).k.at (sts_get hq)
            obtain ⟨rfl, rfl⟩ : b = b2 ∧ o = o2 := by
              have := HA.out
              rw [hA2] at this
              cases this
              exact ⟨rfl, rfl⟩
            have HQ : Hid (prevK ⟨#[]⟩ n.keys k = q) := Lib.hid (by rw [hjk]; simp [prevK, List.getD_eq_getElem?_getD, hq])
            have YP := Lib.hid yp
            have hg0 : decide ((0 : Int) < (k : Int)) = true := by rw [decide_eq_true_eq]; omega
            have hg1 : decide (0 < k) = true := by rw [decide_eq_true_eq]; omega
            have hkj : (k : Int) - 1 = (j : Int) := by omega
            have hw1 : IntKind.i64.wrap (j : Int) = (j : Int) := IntWalk.i64_in _ (by omega)
            have hjlt : j < nk := by omega
            have HJ := Lib.hid hjk
            clear hjk h0
            clear hq hA2 yp
            have hle : Go.Op.bytesLess q.toList x.toList = bls q x := rfl
            rcases hbl : bls q x with _ | _
            · rw [hbl] at hle
              have HE : Hid (okB kw vw n = false) := Lib.hid (okB_keyno (keysB_no HX.out (by rw [HQ.out, ky_next, hbl, Bool.false_and])))
              refine wp_region_quiet (C := fun v => Kp (fun _ => False) (wr) v) (by kernel_rfl) (by kernel_rfl) ((Kp.refl _ _).drew) (Wq.out ?_)
              refine qtk (h := ?_)
              refine qtk (hy := fun v hv => by (obtain ⟨y0, y1, y2, y3, y4, y5⟩ := HF.out v (HK.out.trans hv); have yx := (hv.cell (p := ⟨b, o + k, none⟩) (World.block_lt_of_cell? wr ⟨b, o + k, none⟩ YX.out) (fun h => h)).trans YX.out; rw [HA.out] at y3; have yp := (hv.cell (p := ⟨b, o + j, none⟩) (World.block_lt_of_cell? wr ⟨b, o + j, none⟩ YP.out) (fun h => h)).trans YP.out; unfold Oper.quietAt; go_simp; with_reducible rfl)) (h := ?_)
              refine qtk (h := ?_)
              refine qtk (h := ?_)
              refine qtk (hy := fun v hv => by (obtain ⟨y0, y1, y2, y3, y4, y5⟩ := HF.out v (HK.out.trans hv); have yx := (hv.cell (p := ⟨b, o + k, none⟩) (World.block_lt_of_cell? wr ⟨b, o + k, none⟩ YX.out) (fun h => h)).trans YX.out; rw [HA.out] at y3; have yp := (hv.cell (p := ⟨b, o + j, none⟩) (World.block_lt_of_cell? wr ⟨b, o + j, none⟩ YP.out) (fun h => h)).trans YP.out; unfold Oper.quietAt; go_simp; with_reducible rfl)) (h := ?_)
              refine qtk (h := ?_)
              refine qtk (h := ?_)
              refine qtk (hy := fun v hv => by (obtain ⟨y0, y1, y2, y3, y4, y5⟩ := HF.out v (HK.out.trans hv); have yx := (hv.cell (p := ⟨b, o + k, none⟩) (World.block_lt_of_cell? wr ⟨b, o + k, none⟩ YX.out) (fun h => h)).trans YX.out; rw [HA.out] at y3; have yp := (hv.cell (p := ⟨b, o + j, none⟩) (World.block_lt_of_cell? wr ⟨b, o + j, none⟩ YP.out) (fun h => h)).trans YP.out; unfold Oper.quietAt; go_simp; with_reducible rfl)) (h := ?_)
              refine qtk (h := ?_)
              refine qtk (h := ?_)
              refine qtk (h := ?_)
              refine qtk (h := ?_)
              refine qtk (h := ?_)
              refine qtk (h := ?_)
              refine qtk (hy := fun v hv => by (obtain ⟨y0, y1, y2, y3, y4, y5⟩ := HF.out v (HK.out.trans hv); have yx := (hv.cell (p := ⟨b, o + k, none⟩) (World.block_lt_of_cell? wr ⟨b, o + k, none⟩ YX.out) (fun h => h)).trans YX.out; rw [HA.out] at y3; have yp := (hv.cell (p := ⟨b, o + j, none⟩) (World.block_lt_of_cell? wr ⟨b, o + j, none⟩ YP.out) (fun h => h)).trans YP.out; unfold Oper.quietAt; go_simp; with_reducible rfl)) (h := ?_)
              refine qtk (h := ?_)
              refine qtk (h := ?_)
              refine qtk (h := ?_)
              refine qtk (hy := fun v hv => by (obtain ⟨y0, y1, y2, y3, y4, y5⟩ := HF.out v (HK.out.trans hv); have yx := (hv.cell (p := ⟨b, o + k, none⟩) (World.block_lt_of_cell? wr ⟨b, o + k, none⟩ YX.out) (fun h => h)).trans YX.out; rw [HA.out] at y3; have yp := (hv.cell (p := ⟨b, o + j, none⟩) (World.block_lt_of_cell? wr ⟨b, o + j, none⟩ YP.out) (fun h => h)).trans YP.out; unfold Oper.quietAt; go_simp; with_reducible rfl)) (h := ?_)
              refine qtk (h := ?_)
              refine qtk (hy := fun v hv => by (obtain ⟨y0, y1, y2, y3, y4, y5⟩ := HF.out v (HK.out.trans hv); have yx := (hv.cell (p := ⟨b, o + k, none⟩) (World.block_lt_of_cell? wr ⟨b, o + k, none⟩ YX.out) (fun h => h)).trans YX.out; rw [HA.out] at y3; have yp := (hv.cell (p := ⟨b, o + j, none⟩) (World.block_lt_of_cell? wr ⟨b, o + j, none⟩ YP.out) (fun h => h)).trans YP.out; unfold Oper.quietAt; go_simp; with_reducible rfl)) (h := ?_)
              refine qtk (h := ?_)
              refine qtk (h := ?_)
              refine qtk (hy := fun v hv => by (obtain ⟨y0, y1, y2, y3, y4, y5⟩ := HF.out v (HK.out.trans hv); have yx := (hv.cell (p := ⟨b, o + k, none⟩) (World.block_lt_of_cell? wr ⟨b, o + k, none⟩ YX.out) (fun h => h)).trans YX.out; rw [HA.out] at y3; have yp := (hv.cell (p := ⟨b, o + j, none⟩) (World.block_lt_of_cell? wr ⟨b, o + j, none⟩ YP.out) (fun h => h)).trans YP.out; unfold Oper.quietAt; go_simp; with_reducible rfl)) (h := ?_)
              refine qtk (h := ?_)
              refine qtk (h := ?_)
              refine qtk (h := ?_)
              refine Wq.mk (wpQuiet_nil ?_)
              intro w3 hw3
              have K2 := Lib.hid (HK.out.trans hw3)
              clear hw3 hs hg0 hg1 hd hd' hkj hw1 hjlt hle hbl
              go_wp2_with fail
              go_ret
              refine ⟨?_, K0.out.trans K2.out⟩
              rw [HE.out]
              rfl
            · rw [hbl] at hle
              have HKY : Hid (kyB kw (prevK ⟨#[]⟩ n.keys k) x = true) := Lib.hid (by rw [HQ.out, ky_next, hbl, HSZ.out]; simp)
              refine wp_region_quiet (C := fun v => Kp (fun _ => False) (wr) v) (by kernel_rfl) (by kernel_rfl) ((Kp.refl _ _).drew) (Wq.out ?_)
              refine qtk (h := ?_)
              refine qtk (hy := fun v hv => by (obtain ⟨y0, y1, y2, y3, y4, y5⟩ := HF.out v (HK.out.trans hv); have yx := (hv.cell (p := ⟨b, o + k, none⟩) (World.block_lt_of_cell? wr ⟨b, o + k, none⟩ YX.out) (fun h => h)).trans YX.out; rw [HA.out] at y3; have yp := (hv.cell (p := ⟨b, o + j, none⟩) (World.block_lt_of_cell? wr ⟨b, o + j, none⟩ YP.out) (fun h => h)).trans YP.out; unfold Oper.quietAt; go_simp; with_reducible rfl)) (h := ?_)
              refine qtk (h := ?_)
              refine qtk (h := ?_)
              refine qtk (hy := fun v hv => by (obtain ⟨y0, y1, y2, y3, y4, y5⟩ := HF.out v (HK.out.trans hv); have yx := (hv.cell (p := ⟨b, o + k, none⟩) (World.block_lt_of_cell? wr ⟨b, o + k, none⟩ YX.out) (fun h => h)).trans YX.out; rw [HA.out] at y3; have yp := (hv.cell (p := ⟨b, o + j, none⟩) (World.block_lt_of_cell? wr ⟨b, o + j, none⟩ YP.out) (fun h => h)).trans YP.out; unfold Oper.quietAt; go_simp; with_reducible rfl)) (h := ?_)
              refine qtk (h := ?_)
              refine qtk (h := ?_)
              refine qtk (hy := fun v hv => by (obtain ⟨y0, y1, y2, y3, y4, y5⟩ := HF.out v (HK.out.trans hv); have yx := (hv.cell (p := ⟨b, o + k, none⟩) (World.block_lt_of_cell? wr ⟨b, o + k, none⟩ YX.out) (fun h => h)).trans YX.out; rw [HA.out] at y3; have yp := (hv.cell (p := ⟨b, o + j, none⟩) (World.block_lt_of_cell? wr ⟨b, o + j, none⟩ YP.out) (fun h => h)).trans YP.out; unfold Oper.quietAt; go_simp; with_reducible rfl)) (h := ?_)
              refine qtk (h := ?_)
              refine qtk (h := ?_)
              refine qtk (h := ?_)
              refine qtk (h := ?_)
              refine qtk (h := ?_)
              refine qtk (h := ?_)
              refine qtk (hy := fun v hv => by (obtain ⟨y0, y1, y2, y3, y4, y5⟩ := HF.out v (HK.out.trans hv); have yx := (hv.cell (p := ⟨b, o + k, none⟩) (World.block_lt_of_cell? wr ⟨b, o + k, none⟩ YX.out) (fun h => h)).trans YX.out; rw [HA.out] at y3; have yp := (hv.cell (p := ⟨b, o + j, none⟩) (World.block_lt_of_cell? wr ⟨b, o + j, none⟩ YP.out) (fun h => h)).trans YP.out; unfold Oper.quietAt; go_simp; with_reducible rfl)) (h := ?_)
              refine qtk (h := ?_)
              refine qtk (h := ?_)
              refine qtk (h := ?_)
              refine qtk (hy := fun v hv => by (obtain ⟨y0, y1, y2, y3, y4, y5⟩ := HF.out v (HK.out.trans hv); have yx := (hv.cell (p := ⟨b, o + k, none⟩) (World.block_lt_of_cell? wr ⟨b, o + k, none⟩ YX.out) (fun h => h)).trans YX.out; rw [HA.out] at y3; have yp := (hv.cell (p := ⟨b, o + j, none⟩) (World.block_lt_of_cell? wr ⟨b, o + j, none⟩ YP.out) (fun h => h)).trans YP.out; unfold Oper.quietAt; go_simp; with_reducible rfl)) (h := ?_)
              refine qtk (h := ?_)
              refine qtk (hy := fun v hv => by (obtain ⟨y0, y1, y2, y3, y4, y5⟩ := HF.out v (HK.out.trans hv); have yx := (hv.cell (p := ⟨b, o + k, none⟩) (World.block_lt_of_cell? wr ⟨b, o + k, none⟩ YX.out) (fun h => h)).trans YX.out; rw [HA.out] at y3; have yp := (hv.cell (p := ⟨b, o + j, none⟩) (World.block_lt_of_cell? wr ⟨b, o + j, none⟩ YP.out) (fun h => h)).trans YP.out; unfold Oper.quietAt; go_simp; with_reducible rfl)) (h := ?_)
              refine qtk (h := ?_)
              refine qtk (h := ?_)
              refine qtk (hy := fun v hv => by (obtain ⟨y0, y1, y2, y3, y4, y5⟩ := HF.out v (HK.out.trans hv); have yx := (hv.cell (p := ⟨b, o + k, none⟩) (World.block_lt_of_cell? wr ⟨b, o + k, none⟩ YX.out) (fun h => h)).trans YX.out; rw [HA.out] at y3; have yp := (hv.cell (p := ⟨b, o + j, none⟩) (World.block_lt_of_cell? wr ⟨b, o + j, none⟩ YP.out) (fun h => h)).trans YP.out; unfold Oper.quietAt; go_simp; with_reducible rfl)) (h := ?_)
              refine qtk (h := ?_)
              refine qtk (h := ?_)
              refine qtk (h := ?_)
              refine Wq.mk (wpQuiet_nil ?_)
              intro w3 hw3
              have K2 := Lib.hid (HK.out.trans hw3)
              clear hw3 hs hg0 hg1 hd hd' hkj hw1 hjlt hle hbl
              go_wp2_with fail
              go_roundw
              case rel => exact ⟨k + 1, by omega, by go_num, fun i z hi hz => by
                rcases Nat.lt_or_ge i k with h | h
                · exact HT.out i z h hz
                · obtain rfl : i = k := by omega
                  rw [HX.out] at hz
                  cases hz
                  exact HKY.out, K2.out⟩
              case measure => simp [Go.RowKit.intOf]; omega
        · have HE : Hid (okB kw vw n = false) := Lib.hid (okB_keyno (keysB_no HX.out (by
            have : ((x.size : Int) == kw) = false := by simpa using hs
            unfold kyB
            rw [this, Bool.and_false])))
          refine wp_region_quiet (C := fun v => Kp (fun _ => False) (wr) v) (by kernel_rfl) (by kernel_rfl) ((Kp.refl _ _).drew) (Wq.out ?_)
          refine qtk (h := ?_)
          refine qtk (hy := fun v hv => by (obtain ⟨y0, y1, y2, y3, y4, y5⟩ := HF.out v (HK.out.trans hv); have yx := (hv.cell (p := ⟨b, o + k, none⟩) (World.block_lt_of_cell? wr ⟨b, o + k, none⟩ YX.out) (fun h => h)).trans YX.out; rw [HA.out] at y3; unfold Oper.quietAt; go_simp; with_reducible rfl)) (h := ?_)
          refine qtk (h := ?_)
          refine qtk (h := ?_)
          refine qtk (hy := fun v hv => by (obtain ⟨y0, y1, y2, y3, y4, y5⟩ := HF.out v (HK.out.trans hv); have yx := (hv.cell (p := ⟨b, o + k, none⟩) (World.block_lt_of_cell? wr ⟨b, o + k, none⟩ YX.out) (fun h => h)).trans YX.out; rw [HA.out] at y3; unfold Oper.quietAt; go_simp; with_reducible rfl)) (h := ?_)
          refine qtk (h := ?_)
          refine qtk (h := ?_)
          refine qtk (hy := fun v hv => by (obtain ⟨y0, y1, y2, y3, y4, y5⟩ := HF.out v (HK.out.trans hv); have yx := (hv.cell (p := ⟨b, o + k, none⟩) (World.block_lt_of_cell? wr ⟨b, o + k, none⟩ YX.out) (fun h => h)).trans YX.out; rw [HA.out] at y3; unfold Oper.quietAt; go_simp; with_reducible rfl)) (h := ?_)
          refine qtk (h := ?_)
          refine qtk (h := ?_)
          refine qsk (h := ?_)
          refine qsk (h := ?_)
          refine qsk (h := ?_)
          refine qsk (h := ?_)
          refine qsk (h := ?_)
          refine qsk (h := ?_)
          refine qsk (h := ?_)
          refine qsk (h := ?_)
          refine qsk (h := ?_)
          refine qsk (h := ?_)
          refine qsk (h := ?_)
          refine qsk (h := ?_)
          refine qsk (h := ?_)
          refine qsk (h := ?_)
          refine qsk (h := ?_)
          refine qsk (h := ?_)
          refine qtk (h := ?_)
          refine Wq.mk (wpQuiet_nil ?_)
          intro w3 hw3
          have K2 := Lib.hid (HK.out.trans hw3)
          clear hw3 hs hd hd'
          go_wp2_with fail
          go_ret
          refine ⟨?_, K0.out.trans K2.out⟩
          rw [HE.out]
          rfl
      · obtain rfl : nk = k := by omega
        have HKY : Hid (keysB kw ⟨#[]⟩ n.keys = true) := Lib.hid (keysB_iff.2 fun j x hx => HT.out j x (by have := (List.getElem?_eq_some_iff.1 hx).1; rw [HNK.out]; exact this) hx)
        clear HT
        obtain ⟨wa, hwa⟩ : ∃ wa, wa = wr := ⟨_, rfl⟩
        subst hwa
        go_upto_region 8 with fail
        clear y3 hlt hk
        rcases hl : n.leaf with _ | _
        · rw [hl] at y2
          have HL := Lib.hid hl
          clear hl
          go_upto_region 16 with fail
          clear y2
          go_loopw [7] (fun sv wr => ∃ k : Nat, k ≤ nc ∧ sv = .int .i64 k ∧ (n.kids.take k).all kidB = true ∧ Kp (fun _ => False) W wr) (fun sv _ => nc - (Go.RowKit.intOf sv).toNat)
          case atStart => exact ⟨0, Nat.zero_le _, rfl, rfl, HK.out⟩
          case round =>
            obtain ⟨k, hk, rfl, ht, hkp⟩ := hrel
            have HT := Lib.hid ht
            have HK := Lib.hid hkp
            clear ht hkp
            obtain ⟨y0, y1, y2, y3, y4, y5⟩ := HF.out wr HK.out
            clear y0 y1 y2 y3 y4
            by_cases hlt : k < nc
            · obtain ⟨x, hx⟩ : ∃ x, n.kids[k]? = some x := ⟨_, List.getElem?_eq_getElem (by rw [← HNC.out]; exact hlt)⟩
              obtain ⟨b, o, hA, yx⟩ := (HR.out wr HK.out).c.at (its_get hx)
              have HX := Lib.hid hx
              rw [hA] at y5
              clear hx hA
              by_cases h1 : x < 1
              · have HE : Hid (okB kw vw n = false) := Lib.hid (okB_kidno HL.out (all_no (List.mem_of_getElem? HX.out) (by simp [kidB]; omega)))
                have K2 := HK
                go_wp2_with fail
                go_ret
                refine ⟨?_, K0.out.trans K2.out⟩
                rw [HE.out]
                rfl
              · by_cases h2 : 1023 < x
                · have HE : Hid (okB kw vw n = false) := Lib.hid (okB_kidno HL.out (all_no (List.mem_of_getElem? HX.out) (by simp [kidB]; omega)))
                  have K2 := HK
                  go_wp2_with fail
                  go_ret
                  refine ⟨?_, K0.out.trans K2.out⟩
                  rw [HE.out]
                  rfl
                · have HKB : Hid (kidB x = true) := Lib.hid (by simp [kidB]; omega)
                  go_wp2_with fail
                  go_roundw
                  case rel =>
                    refine ⟨k + 1, by omega, by go_num, all_take (by rw [← HNC.out]; exact hlt) HT.out ?_, HK.out⟩
                    have := HX.out
                    rw [List.getElem?_eq_getElem (by rw [← HNC.out]; exact hlt)] at this
                    cases this
                    exact HKB.out
                  case measure => simp [Go.RowKit.intOf]; omega
            · obtain rfl : nc = k := by omega
              have HV : Hid (kidsB n.kids = true) := Lib.hid (by have := HT.out; rw [HNC.out, List.take_length] at this; exact this)
              have HE := Lib.hid (okB_inner_eq HB.out HL.out HKY.out HV.out)
              obtain ⟨wb, hwb⟩ : ∃ wb, wb = wr := ⟨_, rfl⟩
              subst hwb
              go_upto_region 20 with fail
              clear y5 hlt hk HT
              have HE2 : Hid (okB kw vw n = (((nv : Int) == 0) && decide ((0 : Int) < (nk : Int)) && ((nc : Int) == (nk : Int) + 1) && decide ((nc : Int) ≤ fanZ kw vw))) := Lib.hid (by have := HE.out; rwa [← HNK.out, ← HNV.out, ← HNC.out] at this)
              have hwk : IntKind.i64.wrap ((nk : Int) + 1) = (nk : Int) + 1 := IntWalk.i64_in _ (by have := HK.out; have := h600.out; omega)
              rcases h1 : ((nv : Int) == 0) with _ | _
              · have HE3 : Hid (okB kw vw n = false) := Lib.hid (by rw [HE2.out, h1]; rfl)
                refine wp_region_quiet (C := fun v => Kp (fun _ => False) (wb) v) (by kernel_rfl) (by kernel_rfl) ((Kp.refl _ _).drew) (Wq.out ?_)
                refine qtk (h := ?_)
                refine qtk (hy := fun v hv => by (obtain ⟨y0, y1, y2, y3, y4, y5⟩ := HF.out v (HK.out.trans hv); unfold Oper.quietAt; go_simp; with_reducible rfl)) (h := ?_)
                refine qtk (h := ?_)
                refine qtk (h := ?_)
                refine qtk (h := ?_)
                refine qsk (h := ?_)
                refine qsk (h := ?_)
                refine qsk (h := ?_)
                refine qsk (h := ?_)
                refine qtk (h := ?_)
                refine qtk (h := ?_)
                refine qsk (h := ?_)
                refine qsk (h := ?_)
                refine qsk (h := ?_)
                refine qsk (h := ?_)
                refine qsk (h := ?_)
                refine qsk (h := ?_)
                refine qsk (h := ?_)
                refine qsk (h := ?_)
                refine qtk (h := ?_)
                refine qtk (h := ?_)
                refine qsk (h := ?_)
                refine qsk (h := ?_)
                refine qsk (h := ?_)
                refine qsk (h := ?_)
                refine qsk (h := ?_)
                refine qsk (h := ?_)
                refine qtk (h := ?_)
                refine qtk (h := ?_)
                refine Wq.mk (wpQuiet_nil ?_)
                intro w3 hw3
                have K2 := Lib.hid (HK.out.trans hw3)
                clear hw3 h1
                go_wp2_with fail
                go_ret
                refine ⟨?_, K0.out.trans K2.out⟩
                rw [HE3.out]
                rfl
              · rcases h2 : decide ((0 : Int) < (nk : Int)) with _ | _
                · have HE3 : Hid (okB kw vw n = false) := Lib.hid (by rw [HE2.out, h1, h2]; rfl)
                  have h2a : decide (0 < nk) = false := by simpa using h2
                  refine wp_region_quiet (C := fun v => Kp (fun _ => False) (wb) v) (by kernel_rfl) (by kernel_rfl) ((Kp.refl _ _).drew) (Wq.out ?_)
                  refine qtk (h := ?_)
                  refine qtk (hy := fun v hv => by (obtain ⟨y0, y1, y2, y3, y4, y5⟩ := HF.out v (HK.out.trans hv); unfold Oper.quietAt; go_simp; with_reducible rfl)) (h := ?_)
                  refine qtk (h := ?_)
                  refine qtk (h := ?_)
                  refine qtk (h := ?_)
                  refine qtk (h := ?_)
                  refine qtk (hy := fun v hv => by (obtain ⟨y0, y1, y2, y3, y4, y5⟩ := HF.out v (HK.out.trans hv); unfold Oper.quietAt; go_simp; with_reducible rfl)) (h := ?_)
                  refine qtk (h := ?_)
                  refine qtk (h := ?_)
                  refine qtk (h := ?_)
                  refine qtk (h := ?_)
                  refine qsk (h := ?_)
                  refine qsk (h := ?_)
                  refine qsk (h := ?_)
                  refine qsk (h := ?_)
                  refine qsk (h := ?_)
                  refine qsk (h := ?_)
                  refine qsk (h := ?_)
                  refine qsk (h := ?_)
                  refine qtk (h := ?_)
                  refine qtk (h := ?_)
                  refine qsk (h := ?_)
                  refine qsk (h := ?_)
                  refine qsk (h := ?_)
                  refine qsk (h := ?_)
                  refine qsk (h := ?_)
                  refine qsk (h := ?_)
                  refine qtk (h := ?_)
                  refine qtk (h := ?_)
                  refine Wq.mk (wpQuiet_nil ?_)
                  intro w3 hw3
                  have K2 := Lib.hid (HK.out.trans hw3)
                  clear hw3 h1 h2 h2a
                  go_wp2_with fail
                  go_ret
                  refine ⟨?_, K0.out.trans K2.out⟩
                  rw [HE3.out]
                  rfl
                · rcases h3 : ((nc : Int) == (nk : Int) + 1) with _ | _
                  · have HE3 : Hid (okB kw vw n = false) := Lib.hid (by rw [HE2.out, h1, h2, h3]; rfl)
                    have h2a : decide (0 < nk) = true := by simpa using h2
                    have h3a : (nc == nk + 1) = false := by
                      have h3b := h3
                      rw [beq_eq_false_iff_ne, ne_eq] at h3b ⊢
                      omega
                    refine wp_region_quiet (C := fun v => Kp (fun _ => False) (wb) v) (by kernel_rfl) (by kernel_rfl) ((Kp.refl _ _).drew) (Wq.out ?_)
                    refine qtk (h := ?_)
                    refine qtk (hy := fun v hv => by (obtain ⟨y0, y1, y2, y3, y4, y5⟩ := HF.out v (HK.out.trans hv); unfold Oper.quietAt; go_simp; with_reducible rfl)) (h := ?_)
                    refine qtk (h := ?_)
                    refine qtk (h := ?_)
                    refine qtk (h := ?_)
                    refine qtk (h := ?_)
                    refine qtk (hy := fun v hv => by (obtain ⟨y0, y1, y2, y3, y4, y5⟩ := HF.out v (HK.out.trans hv); unfold Oper.quietAt; go_simp; with_reducible rfl)) (h := ?_)
                    refine qtk (h := ?_)
                    refine qtk (h := ?_)
                    refine qtk (h := ?_)
                    refine qtk (h := ?_)
                    refine qtk (h := ?_)
                    refine qtk (hy := fun v hv => by (obtain ⟨y0, y1, y2, y3, y4, y5⟩ := HF.out v (HK.out.trans hv); unfold Oper.quietAt; go_simp; with_reducible rfl)) (h := ?_)
                    refine qtk (h := ?_)
                    refine qtk (h := ?_)
                    refine qtk (hy := fun v hv => by (obtain ⟨y0, y1, y2, y3, y4, y5⟩ := HF.out v (HK.out.trans hv); unfold Oper.quietAt; go_simp; with_reducible rfl)) (h := ?_)
                    refine qtk (h := ?_)
                    refine qtk (h := ?_)
                    refine qtk (h := ?_)
                    refine qtk (h := ?_)
                    refine qtk (h := ?_)
                    refine qsk (h := ?_)
                    refine qsk (h := ?_)
                    refine qsk (h := ?_)
                    refine qsk (h := ?_)
                    refine qsk (h := ?_)
                    refine qsk (h := ?_)
                    refine qtk (h := ?_)
                    refine qtk (h := ?_)
                    refine Wq.mk (wpQuiet_nil ?_)
                    intro w3 hw3
                    have K2 := Lib.hid (HK.out.trans hw3)
                    clear hw3 h1 h2 h3 h2a h3a
                    go_wp2_with fail
                    go_ret
                    refine ⟨?_, K0.out.trans K2.out⟩
                    rw [HE3.out]
                    rfl
                  · rcases h4 : decide ((nc : Int) ≤ fanZ kw vw) with _ | _
                    · have HE3 : Hid (okB kw vw n = false) := Lib.hid (by rw [HE2.out, h1, h2, h3, h4]; rfl)
                      have h2a : decide (0 < nk) = true := by simpa using h2
                      have h3a : (nc == nk + 1) = true := by
                        have h3b := h3
                        rw [beq_iff_eq] at h3b ⊢
                        omega
                      refine wp_region_quiet (C := fun v => Kp (fun _ => False) (wb) v) (by kernel_rfl) (by kernel_rfl) ((Kp.refl _ _).drew) (Wq.out ?_)
                      refine qtk (h := ?_)
                      refine qtk (hy := fun v hv => by (obtain ⟨y0, y1, y2, y3, y4, y5⟩ := HF.out v (HK.out.trans hv); unfold Oper.quietAt; go_simp; with_reducible rfl)) (h := ?_)
                      refine qtk (h := ?_)
                      refine qtk (h := ?_)
                      refine qtk (h := ?_)
                      refine qtk (h := ?_)
                      refine qtk (hy := fun v hv => by (obtain ⟨y0, y1, y2, y3, y4, y5⟩ := HF.out v (HK.out.trans hv); unfold Oper.quietAt; go_simp; with_reducible rfl)) (h := ?_)
                      refine qtk (h := ?_)
                      refine qtk (h := ?_)
                      refine qtk (h := ?_)
                      refine qtk (h := ?_)
                      refine qtk (h := ?_)
                      refine qtk (hy := fun v hv => by (obtain ⟨y0, y1, y2, y3, y4, y5⟩ := HF.out v (HK.out.trans hv); unfold Oper.quietAt; go_simp; with_reducible rfl)) (h := ?_)
                      refine qtk (h := ?_)
                      refine qtk (h := ?_)
                      refine qtk (hy := fun v hv => by (obtain ⟨y0, y1, y2, y3, y4, y5⟩ := HF.out v (HK.out.trans hv); unfold Oper.quietAt; go_simp; with_reducible rfl)) (h := ?_)
                      refine qtk (h := ?_)
                      refine qtk (h := ?_)
                      refine qtk (h := ?_)
                      refine qtk (h := ?_)
                      refine qtk (h := ?_)
                      refine qtk (h := ?_)
                      refine qtk (hy := fun v hv => by (obtain ⟨y0, y1, y2, y3, y4, y5⟩ := HF.out v (HK.out.trans hv); unfold Oper.quietAt; go_simp; with_reducible rfl)) (h := ?_)
                      refine qtk (h := ?_)
                      refine qld (w.heap.size) 0 ([.int .i64 kw, .int .i64 vw]) (fun v hv => (HS.out v (HK.out.trans hv)).range) Try.underlying23 (h := ?_)
                      refine qtk (hy := fun v hv => by (unfold Oper.quietAt; go_simp; exact (rfan_any kw vw v).mono (fun e w1 h => ⟨h.1, hv.trans h.2⟩))) (h := ?_)
                      refine qtk (h := ?_)
                      refine qtk (h := ?_)
                      refine qtk (h := ?_)
                      refine Wq.mk (wpQuiet_nil ?_)
                      intro w3 hw3
                      have K2 := Lib.hid (HK.out.trans hw3)
                      clear hw3 h1 h2 h3 h4 h2a h3a
                      go_wp2_with fail
                      go_ret
                      refine ⟨?_, K0.out.trans K2.out⟩
                      rw [HE3.out]
                      rfl
                    · have HE3 : Hid (okB kw vw n = true) := Lib.hid (by rw [HE2.out, h1, h2, h3, h4]; rfl)
                      have h2a : decide (0 < nk) = true := by simpa using h2
                      have h3a : (nc == nk + 1) = true := by
                        have h3b := h3
                        rw [beq_iff_eq] at h3b ⊢
                        omega
                      refine wp_region_quiet (C := fun v => Kp (fun _ => False) (wb) v) (by kernel_rfl) (by kernel_rfl) ((Kp.refl _ _).drew) (Wq.out ?_)
                      refine qtk (h := ?_)
                      refine qtk (hy := fun v hv => by (obtain ⟨y0, y1, y2, y3, y4, y5⟩ := HF.out v (HK.out.trans hv); unfold Oper.quietAt; go_simp; with_reducible rfl)) (h := ?_)
                      refine qtk (h := ?_)
                      refine qtk (h := ?_)
                      refine qtk (h := ?_)
                      refine qtk (h := ?_)
                      refine qtk (hy := fun v hv => by (obtain ⟨y0, y1, y2, y3, y4, y5⟩ := HF.out v (HK.out.trans hv); unfold Oper.quietAt; go_simp; with_reducible rfl)) (h := ?_)
                      refine qtk (h := ?_)
                      refine qtk (h := ?_)
                      refine qtk (h := ?_)
                      refine qtk (h := ?_)
                      refine qtk (h := ?_)
                      refine qtk (hy := fun v hv => by (obtain ⟨y0, y1, y2, y3, y4, y5⟩ := HF.out v (HK.out.trans hv); unfold Oper.quietAt; go_simp; with_reducible rfl)) (h := ?_)
                      refine qtk (h := ?_)
                      refine qtk (h := ?_)
                      refine qtk (hy := fun v hv => by (obtain ⟨y0, y1, y2, y3, y4, y5⟩ := HF.out v (HK.out.trans hv); unfold Oper.quietAt; go_simp; with_reducible rfl)) (h := ?_)
                      refine qtk (h := ?_)
                      refine qtk (h := ?_)
                      refine qtk (h := ?_)
                      refine qtk (h := ?_)
                      refine qtk (h := ?_)
                      refine qtk (h := ?_)
                      refine qtk (hy := fun v hv => by (obtain ⟨y0, y1, y2, y3, y4, y5⟩ := HF.out v (HK.out.trans hv); unfold Oper.quietAt; go_simp; with_reducible rfl)) (h := ?_)
                      refine qtk (h := ?_)
                      refine qld (w.heap.size) 0 ([.int .i64 kw, .int .i64 vw]) (fun v hv => (HS.out v (HK.out.trans hv)).range) Try.underlying23 (h := ?_)
                      refine qtk (hy := fun v hv => by (unfold Oper.quietAt; go_simp; exact (rfan_any kw vw v).mono (fun e w1 h => ⟨h.1, hv.trans h.2⟩))) (h := ?_)
                      refine qtk (h := ?_)
                      refine qtk (h := ?_)
                      refine qtk (h := ?_)
                      refine Wq.mk (wpQuiet_nil ?_)
                      intro w3 hw3
                      have K2 := Lib.hid (HK.out.trans hw3)
                      clear hw3 h1 h2 h3 h4 h2a h3a
                      go_wp2_with fail
                      go_ret
                      refine ⟨?_, K0.out.trans K2.out⟩
                      rw [HE3.out]
                      rfl
        · rw [hl] at y2
          have HL := Lib.hid hl
          clear hl
          go_upto_region 10 with fail
          clear y2
          go_loopw [6] (fun sv wr => ∃ k : Nat, k ≤ nv ∧ sv = .int .i64 k ∧ (n.vals.take k).all (fun v => (v.size : Int) == vw) = true ∧ Kp (fun _ => False) W wr) (fun sv _ => nv - (Go.RowKit.intOf sv).toNat)
          case atStart => exact ⟨0, Nat.zero_le _, rfl, rfl, HK.out⟩
          case round =>
            obtain ⟨k, hk, rfl, ht, hkp⟩ := hrel
            have HT := Lib.hid ht
            have HK := Lib.hid hkp
            clear ht hkp
            obtain ⟨y0, y1, y2, y3, y4, y5⟩ := HF.out wr HK.out
            clear y0 y2 y3 y5
            by_cases hlt : k < nv
            · obtain ⟨x, hx⟩ : ∃ x, n.vals[k]? = some x := ⟨_, List.getElem?_eq_getElem (by rw [← HNV.out]; exact hlt)⟩
              obtain ⟨b, o, hA, yx⟩ := (HR.out wr HK.out).v.at (sts_get hx)
              have HX := Lib.hid hx
              rw [hA] at y4
              clear hx hA
              rcases hs : ((x.size : Int) != vw) with _ | _
              · have HSZ : Hid (((x.size : Int) == vw) = true) := Lib.hid (by simpa using hs)
                go_wp2_with fail
                go_quiet (fail)
                have K2 := Lib.hid ((HK.out).drewN nq)
                clear y1 y4 yx hs
                go_wp2_with fail
                go_roundw
                case rel =>
                  refine ⟨k + 1, by omega, by go_num, all_take (by rw [← HNV.out]; exact hlt) HT.out ?_, K2.out⟩
                  have := HX.out
                  rw [List.getElem?_eq_getElem (by rw [← HNV.out]; exact hlt)] at this
                  cases this
                  exact HSZ.out
                case measure => simp [Go.RowKit.intOf]; omega
              · have HE : Hid (okB kw vw n = false) := Lib.hid (okB_valno HL.out (all_no (List.mem_of_getElem? HX.out) (by simpa using hs)))
                go_wp2_with fail
                go_quiet (fail)
                have K2 := Lib.hid ((HK.out).drewN nq)
                clear y1 y4 yx hs
                go_wp2_with fail
                go_ret
                refine ⟨?_, K0.out.trans K2.out⟩
                rw [HE.out]
                rfl
            · obtain rfl : nv = k := by omega
              have HV : Hid (valsB vw n.vals = true) := Lib.hid (by have := HT.out; rw [HNV.out, List.take_length] at this; exact this)
              have HE := Lib.hid (okB_leaf_eq HB.out HL.out HKY.out HV.out)
              obtain ⟨wb, hwb⟩ : ∃ wb, wb = wr := ⟨_, rfl⟩
              subst hwb
              go_upto_region 14 with fail
              clear y1 y4 hlt hk HT
              have HE2 : Hid (okB kw vw n = (((nc : Int) == 0) && ((nv : Int) == (nk : Int)) && decide ((nk : Int) ≤ capZ kw vw))) := Lib.hid (by have := HE.out; rwa [← HNK.out, ← HNV.out, ← HNC.out] at this)
              rcases h1 : ((nc : Int) == 0) with _ | _
              · have HE3 : Hid (okB kw vw n = false) := Lib.hid (by rw [HE2.out, h1]; rfl)
                refine wp_region_quiet (C := fun v => Kp (fun _ => False) (wb) v) (by kernel_rfl) (by kernel_rfl) ((Kp.refl _ _).drew) (Wq.out ?_)
                refine qtk (h := ?_)
                refine qtk (hy := fun v hv => by (obtain ⟨y0, y1, y2, y3, y4, y5⟩ := HF.out v (HK.out.trans hv); unfold Oper.quietAt; go_simp; with_reducible rfl)) (h := ?_)
                refine qtk (h := ?_)
                refine qtk (h := ?_)
                refine qtk (h := ?_)
                refine qsk (h := ?_)
                refine qsk (h := ?_)
                refine qsk (h := ?_)
                refine qsk (h := ?_)
                refine qsk (h := ?_)
                refine qsk (h := ?_)
                refine qsk (h := ?_)
                refine qtk (h := ?_)
                refine qtk (h := ?_)
                refine qsk (h := ?_)
                refine qsk (h := ?_)
                refine qsk (h := ?_)
                refine qsk (h := ?_)
                refine qsk (h := ?_)
                refine qsk (h := ?_)
                refine qtk (h := ?_)
                refine qtk (h := ?_)
                refine Wq.mk (wpQuiet_nil ?_)
                intro w3 hw3
                have K2 := Lib.hid (HK.out.trans hw3)
                clear hw3 h1
                go_wp2_with fail
                go_ret
                refine ⟨?_, K0.out.trans K2.out⟩
                rw [HE3.out]
                rfl
              · rcases h2 : ((nv : Int) == (nk : Int)) with _ | _
                · have HE3 : Hid (okB kw vw n = false) := Lib.hid (by rw [HE2.out, h1, h2]; rfl)
                  refine wp_region_quiet (C := fun v => Kp (fun _ => False) (wb) v) (by kernel_rfl) (by kernel_rfl) ((Kp.refl _ _).drew) (Wq.out ?_)
                  refine qtk (h := ?_)
                  refine qtk (hy := fun v hv => by (obtain ⟨y0, y1, y2, y3, y4, y5⟩ := HF.out v (HK.out.trans hv); unfold Oper.quietAt; go_simp; with_reducible rfl)) (h := ?_)
                  refine qtk (h := ?_)
                  refine qtk (h := ?_)
                  refine qtk (h := ?_)
                  refine qtk (h := ?_)
                  refine qtk (hy := fun v hv => by (obtain ⟨y0, y1, y2, y3, y4, y5⟩ := HF.out v (HK.out.trans hv); unfold Oper.quietAt; go_simp; with_reducible rfl)) (h := ?_)
                  refine qtk (h := ?_)
                  refine qtk (h := ?_)
                  refine qtk (hy := fun v hv => by (obtain ⟨y0, y1, y2, y3, y4, y5⟩ := HF.out v (HK.out.trans hv); unfold Oper.quietAt; go_simp; with_reducible rfl)) (h := ?_)
                  refine qtk (h := ?_)
                  refine qtk (h := ?_)
                  refine qtk (h := ?_)
                  refine qtk (h := ?_)
                  refine qsk (h := ?_)
                  refine qsk (h := ?_)
                  refine qsk (h := ?_)
                  refine qsk (h := ?_)
                  refine qsk (h := ?_)
                  refine qsk (h := ?_)
                  refine qtk (h := ?_)
                  refine qtk (h := ?_)
                  refine Wq.mk (wpQuiet_nil ?_)
                  intro w3 hw3
                  have K2 := Lib.hid (HK.out.trans hw3)
                  clear hw3 h1 h2
                  go_wp2_with fail
                  go_ret
                  refine ⟨?_, K0.out.trans K2.out⟩
                  rw [HE3.out]
                  rfl
                · rcases h3 : decide ((nk : Int) ≤ capZ kw vw) with _ | _
                  · have HE3 : Hid (okB kw vw n = false) := Lib.hid (by rw [HE2.out, h1, h2, h3]; rfl)
                    refine wp_region_quiet (C := fun v => Kp (fun _ => False) (wb) v) (by kernel_rfl) (by kernel_rfl) ((Kp.refl _ _).drew) (Wq.out ?_)
                    refine qtk (h := ?_)
                    refine qtk (hy := fun v hv => by (obtain ⟨y0, y1, y2, y3, y4, y5⟩ := HF.out v (HK.out.trans hv); unfold Oper.quietAt; go_simp; with_reducible rfl)) (h := ?_)
                    refine qtk (h := ?_)
                    refine qtk (h := ?_)
                    refine qtk (h := ?_)
                    refine qtk (h := ?_)
                    refine qtk (hy := fun v hv => by (obtain ⟨y0, y1, y2, y3, y4, y5⟩ := HF.out v (HK.out.trans hv); unfold Oper.quietAt; go_simp; with_reducible rfl)) (h := ?_)
                    refine qtk (h := ?_)
                    refine qtk (h := ?_)
                    refine qtk (hy := fun v hv => by (obtain ⟨y0, y1, y2, y3, y4, y5⟩ := HF.out v (HK.out.trans hv); unfold Oper.quietAt; go_simp; with_reducible rfl)) (h := ?_)
                    refine qtk (h := ?_)
                    refine qtk (h := ?_)
                    refine qtk (h := ?_)
                    refine qtk (h := ?_)
                    refine qtk (h := ?_)
                    refine qtk (hy := fun v hv => by (obtain ⟨y0, y1, y2, y3, y4, y5⟩ := HF.out v (HK.out.trans hv); unfold Oper.quietAt; go_simp; with_reducible rfl)) (h := ?_)
                    refine qtk (h := ?_)
                    refine qld (w.heap.size) 0 ([.int .i64 kw, .int .i64 vw]) (fun v hv => (HS.out v (HK.out.trans hv)).range) Try.underlying23 (h := ?_)
                    refine qtk (hy := fun v hv => by (unfold Oper.quietAt; go_simp; exact (rcap_any kw vw v).mono (fun e w1 h => ⟨h.1, hv.trans h.2⟩))) (h := ?_)
                    refine qtk (h := ?_)
                    refine qtk (h := ?_)
                    refine qtk (h := ?_)
                    refine Wq.mk (wpQuiet_nil ?_)
                    intro w3 hw3
                    have K2 := Lib.hid (HK.out.trans hw3)
                    clear hw3 h1 h2 h3
                    go_wp2_with fail
                    go_ret
                    refine ⟨?_, K0.out.trans K2.out⟩
                    rw [HE3.out]
                    rfl
                  · have HE3 : Hid (okB kw vw n = true) := Lib.hid (by rw [HE2.out, h1, h2, h3]; rfl)
                    refine wp_region_quiet (C := fun v => Kp (fun _ => False) (wb) v) (by kernel_rfl) (by kernel_rfl) ((Kp.refl _ _).drew) (Wq.out ?_)
                    refine qtk (h := ?_)
                    refine qtk (hy := fun v hv => by (obtain ⟨y0, y1, y2, y3, y4, y5⟩ := HF.out v (HK.out.trans hv); unfold Oper.quietAt; go_simp; with_reducible rfl)) (h := ?_)
                    refine qtk (h := ?_)
                    refine qtk (h := ?_)
                    refine qtk (h := ?_)
                    refine qtk (h := ?_)
                    refine qtk (hy := fun v hv => by (obtain ⟨y0, y1, y2, y3, y4, y5⟩ := HF.out v (HK.out.trans hv); unfold Oper.quietAt; go_simp; with_reducible rfl)) (h := ?_)
                    refine qtk (h := ?_)
                    refine qtk (h := ?_)
                    refine qtk (hy := fun v hv => by (obtain ⟨y0, y1, y2, y3, y4, y5⟩ := HF.out v (HK.out.trans hv); unfold Oper.quietAt; go_simp; with_reducible rfl)) (h := ?_)
                    refine qtk (h := ?_)
                    refine qtk (h := ?_)
                    refine qtk (h := ?_)
                    refine qtk (h := ?_)
                    refine qtk (h := ?_)
                    refine qtk (hy := fun v hv => by (obtain ⟨y0, y1, y2, y3, y4, y5⟩ := HF.out v (HK.out.trans hv); unfold Oper.quietAt; go_simp; with_reducible rfl)) (h := ?_)
                    refine qtk (h := ?_)
                    refine qld (w.heap.size) 0 ([.int .i64 kw, .int .i64 vw]) (fun v hv => (HS.out v (HK.out.trans hv)).range) Try.underlying23 (h := ?_)
                    refine qtk (hy := fun v hv => by (unfold Oper.quietAt; go_simp; exact (rcap_any kw vw v).mono (fun e w1 h => ⟨h.1, hv.trans h.2⟩))) (h := ?_)
                    refine qtk (h := ?_)
                    refine qtk (h := ?_)
                    refine qtk (h := ?_)
                    refine Wq.mk (wpQuiet_nil ?_)
                    intro w3 hw3
                    have K2 := Lib.hid (HK.out.trans hw3)
                    clear hw3 h1 h2 h3
                    go_wp2_with fail
                    go_ret
                    refine ⟨?_, K0.out.trans K2.out⟩
                    rw [HE3.out]
                    rfl
end Go.Proofs.Ytjapnkpicefadaa
