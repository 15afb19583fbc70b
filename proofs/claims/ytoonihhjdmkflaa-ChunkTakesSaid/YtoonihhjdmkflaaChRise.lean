/- Whether names rise; whether a chunk may be. No condition. -/
import Derived.Test.YtoonihhjdmkflaaChMay
namespace Go.Proofs.Ytoonihhjdmkflaa
open Go.RowKit

/-- The name ahead of the j-th one. -/
def prevN (p : ByteArray) (l : List Kd) : Nat → ByteArray
  | 0 => p
  | j + 1 => (l.getD j kd0).name
theorem rises_iff : ∀ {p : ByteArray} {l : List Kd}, risesB p l = true ↔ ∀ j x, l[j]? = some x → rise1 (prevN p l j) x = true
  | p, [] => by simp [risesB]
  | p, a :: r => by
    rw [risesB, Bool.and_eq_true, rises_iff]
    constructor
    · rintro ⟨h1, h2⟩ j x hx
      rcases j with _ | j
      · cases hx
        exact h1
      · have := h2 j x (by simpa using hx)
        rcases j with _ | j
        · simpa [prevN] using this
        · simpa [prevN] using this
    · intro h
      refine ⟨h 0 a rfl, fun j x hx => ?_⟩
      have := h (j + 1) x (by simpa using hx)
      rcases j with _ | j
      · simpa [prevN] using this
      · simpa [prevN] using this
theorem rises_no {p : ByteArray} {l : List Kd} {j : Nat} {x : Kd} (hx : l[j]? = some x) (h : rise1 (prevN p l j) x = false) : risesB p l = false := by
  rcases hb : risesB p l with _ | _
  · rfl
  · have := rises_iff.1 hb j x hx
    rw [h] at this
    cases this
set_option maxRecDepth 100000 in
set_option maxHeartbeats 2000000 in
theorem rise_any (A : Option Addr) (n : Nat) (l : List Kd) (w : World) (h : KsR w A l) (ho : ∀ k ∈ l, k.Ok) (hl : l.length ≤ maxLen) :
    Calls Try.prog 43 #[.slice A l.length n] w fun e w' => e = .returned (.bool (risesB ⟨#[]⟩ l)) ∧ Kp (fun _ => False) w w' := by
  have H := Lib.hid h
  have HO := Lib.hid ho
  unfold maxLen at hl
  clear h ho
  go_enter Try.func43, Try.ntmps43
  go_wp2_with fail
  go_loopw [3, 8] (fun s3 s8 wr => ∃ k : Nat, k ≤ l.length ∧ s8 = .int .i64 k ∧ s3 = .string (prevN ⟨#[]⟩ l k) ∧ (∀ j x, j < k → l[j]? = some x → rise1 (prevN ⟨#[]⟩ l j) x = true) ∧ Kp (fun _ => False) w wr) (fun _ s8 _ => l.length - (Go.RowKit.intOf s8).toNat)
  case atStart => exact ⟨0, Nat.zero_le _, rfl, rfl, fun j x hj => by omega, Kp.refl _ _⟩
  case round =>
    obtain ⟨k, hk, rfl, rfl, hall, hkp⟩ := hrel
    have HALL := Lib.hid hall
    have KP := Lib.hid hkp
    obtain ⟨q, hq⟩ : ∃ q, q = prevN ⟨#[]⟩ l k := ⟨_, rfl⟩
    rw [← hq]
    have HQ := Lib.hid hq
    clear hall hkp hq
    by_cases hlt : k < l.length
    · obtain ⟨x, hx⟩ : ∃ x, l[k]? = some x := ⟨_, List.getElem?_eq_getElem hlt⟩
      obtain ⟨b, o, hA, hrg⟩ := (H.out.still KP.out).at hx
      have XO := Lib.hid (HO.out x (List.mem_of_getElem? hx))
      obtain ⟨p, hp⟩ : ∃ p, o + k * 36 = p := ⟨_, rfl⟩
      rw [show o + 36 * k = p by omega] at hrg
      have RG := Lib.hid hrg
      have HX := Lib.hid hx
      have HNX : Hid (prevN ⟨#[]⟩ l (k + 1) = x.name) := Lib.hid (by
        have : l.getD k kd0 = x := by rw [List.getD_eq_getElem?_getD, hx]; rfl
        rw [prevN, this])
      clear hrg hx
      rw [hA]
      have hle : (Go.Op.bytesLess x.name.toList q.toList || (x.name.toList == q.toList)) = ble x.name q := rfl
      rcases hb : ble x.name q with _ | _
      · rw [hb] at hle
        by_cases h16 : (16 : Int) < x.name.size
        · have HN : Hid (risesB ⟨#[]⟩ l = false) := Lib.hid (rises_no HX.out (by rw [← HQ.out]; unfold rise1; rw [hb]; simp; omega))
          clear hb
          go_wp2_with (first | (refine wpList_load_mid rfl 46 (.tmp 10) rfl b p rfl (kcs x) _ RG.out Try.underlying46 rfl (by rw [kcs_len XO.out]; kernel_rfl) ?_) | (refine wpList_new rfl rfl 46 rfl (.tmp 5) (.tmp 11) rfl zKid (kcs x) (kcs_len XO.out) (fun _ => rfl) (fun _ => rfl) (kcs_one x) ?_; intro w3 g3 hg3 hb3 hk3; have y3 : w3.cell? ⟨g3, 0, none⟩ = some (.string x.name) := (kid_cells hb3.range' XO.out).1; have HK3 := Lib.hid hk3; clear hk3 hg3 hb3) | fail)
          go_ret
          rw [HN.out]
          exact ⟨rfl, KP.out.trans HK3.out⟩
        · have HN : Hid (rise1 q x = true) := Lib.hid (by unfold rise1; rw [hb]; simp; omega)
          clear hb
          go_wp2_with (first | (refine wpList_load_mid rfl 46 (.tmp 10) rfl b p rfl (kcs x) _ RG.out Try.underlying46 rfl (by rw [kcs_len XO.out]; kernel_rfl) ?_) | (refine wpList_new rfl rfl 46 rfl (.tmp 5) (.tmp 11) rfl zKid (kcs x) (kcs_len XO.out) (fun _ => rfl) (fun _ => rfl) (kcs_one x) ?_; intro w3 g3 hg3 hb3 hk3; have y3 : w3.cell? ⟨g3, 0, none⟩ = some (.string x.name) := (kid_cells hb3.range' XO.out).1; have HK3 := Lib.hid hk3; clear hk3 hg3 hb3) | fail)
          go_roundw
          case rel =>
            refine ⟨k + 1, by omega, by go_num, by rw [HNX.out], fun j y hj hy => ?_, KP.out.trans HK3.out⟩
            rcases Nat.lt_or_ge j k with hjk | hjk
            · exact HALL.out j y hjk hy
            · obtain rfl : j = k := by omega
              rw [HX.out] at hy
              cases hy
              rw [← HQ.out]
              exact HN.out
          case measure => simp [Go.RowKit.intOf]; omega
      · rw [hb] at hle
        have HN : Hid (risesB ⟨#[]⟩ l = false) := Lib.hid (rises_no HX.out (by rw [← HQ.out]; unfold rise1; rw [hb]; rfl))
        clear hb
        go_wp2_with (first | (refine wpList_load_mid rfl 46 (.tmp 10) rfl b p rfl (kcs x) _ RG.out Try.underlying46 rfl (by rw [kcs_len XO.out]; kernel_rfl) ?_) | (refine wpList_new rfl rfl 46 rfl (.tmp 5) (.tmp 11) rfl zKid (kcs x) (kcs_len XO.out) (fun _ => rfl) (fun _ => rfl) (kcs_one x) ?_; intro w3 g3 hg3 hb3 hk3; have y3 : w3.cell? ⟨g3, 0, none⟩ = some (.string x.name) := (kid_cells hb3.range' XO.out).1; have HK3 := Lib.hid hk3; clear hk3 hg3 hb3) | fail)
        go_ret
        rw [HN.out]
        exact ⟨rfl, KP.out.trans HK3.out⟩
    · have HN : Hid (risesB ⟨#[]⟩ l = true) := Lib.hid (rises_iff.2 fun j x hx => HALL.out j x (by have := (List.getElem?_eq_some_iff.1 hx).1; omega) hx)
      go_wp2_with fail
      go_ret
      rw [HN.out]
      exact ⟨rfl, KP.out⟩
theorem lead_eq (c : Ck) : leadB c = (((c.data.size : Int) == 0) && decide ((c.kids.length : Int) ≤ 6) && decide ((heightN c : Int) ≤ 255)) := by
  unfold leadB
  rw [Bool.eq_iff_iff]
  simp only [Bool.and_eq_true, decide_eq_true_eq, beq_iff_eq]
  omega
set_option maxHeartbeats 1000000 in
theorem mayLead_any (c : Ck) (A : Option Addr) (n : Nat) (w : World) (h : CkR w c A n) :
    Calls Try.prog 40 #[.agg (ccs c A n)] w fun e w' => e = .returned (.bool (leadB c)) ∧ Kp (fun _ => False) w w' := by
  obtain ⟨W, hW, b0, k0⟩ : ∃ W, W = w.alloc (.cells (ccs c A n) 25) ∧ Box W w.heap.size 25 (ccs c A n) ∧ Kp (fun _ => False) w W := ⟨_, rfl, Box.new w _ _, (Kp.refl _ w).alloc _⟩
  have HW := Lib.hid hW
  have K0 := Lib.hid k0
  have B0 := Lib.hid b0
  have HR := Lib.hid (h.still k0)
  have y1 : W.cell? ⟨w.heap.size, 1, none⟩ = some (.string c.data) := b0.cell 1
  have y2 : W.cell? ⟨w.heap.size, 2, none⟩ = some (.slice A c.kids.length n) := b0.cell 2
  have hle := lead_eq c
  clear hW b0 k0 h
  rcases h1 : ((c.data.size : Int) == 0) with _ | _
  · rw [h1, Bool.false_and, Bool.false_and] at hle
    have HL := Lib.hid hle
    clear hle
    go_enter Try.func40, Try.ntmps40
    go_upto_region 1 with fail
    rw [← HW.out]
    go_wp2_with fail
    go_ret
    rw [HL.out]
    exact ⟨rfl, K0.out⟩
  · rw [h1, Bool.true_and] at hle
    rcases h2 : decide ((c.kids.length : Int) ≤ 6) with _ | _
    · rw [h2, Bool.false_and] at hle
      have HL := Lib.hid hle
      clear hle
      go_enter Try.func40, Try.ntmps40
      go_upto_region 1 with fail
      rw [← HW.out]
      go_wp2_with fail
      go_ret
      rw [HL.out]
      exact ⟨rfl, K0.out⟩
    · rw [h2, Bool.true_and] at hle
      have HL := Lib.hid hle
      have HH := Lib.hid (height_any c A n W HR.out)
      have y0 : W.cell? ⟨w.heap.size, 0, none⟩ = some (.int .u8 c.kind) := B0.out.cell 0
      obtain ⟨hn, hhn⟩ : ∃ hn, hn = heightN c := ⟨_, rfl⟩
      rw [← hhn] at HL HH
      clear hle hhn
      go_enter Try.func40, Try.ntmps40
      go_upto_region 1 with fail
      rw [← HW.out]
      go_wp2_with fail
      refine HH.out.mono ?_
      rintro e w1 ⟨rfl, k1⟩
      have K1 := Lib.hid (K0.out.trans k1)
      clear k1
      go_wp2_with fail
      go_ret
      rw [HL.out]
      exact ⟨rfl, K1.out⟩
/-- Whether a chunk may be, by its kind. -/
theorem may_blob {c : Ck} (h : c.kind = 1) : mayB c = (((c.kids.length : Int) == 0) && decide ((c.data.size : Int) ≤ 240)) := by
  unfold mayB
  rw [if_pos h, Bool.eq_iff_iff]
  simp only [Bool.and_eq_true, decide_eq_true_eq, beq_iff_eq]
  omega
theorem may_index {c : Ck} (h : c.kind = 2) : mayB c = (leadB c && decide (0 < c.kids.length) && decide ((sizeN c : Int) ≤ 4294967295) && !(c.kids.any entB)) := by
  unfold mayB
  have e : decide (sizeN c ≤ 4294967295) = decide ((sizeN c : Int) ≤ 4294967295) := by rw [Bool.eq_iff_iff]; simp only [decide_eq_true_eq]; omega
  rw [if_neg (by omega), if_pos h, e]
theorem may_dir {c : Ck} (h : c.kind = 3) : mayB c = (leadB c && risesB ⟨#[]⟩ c.kids) := by
  unfold mayB
  rw [if_neg (by omega), if_neg (by omega), if_pos h]
theorem may_none {c : Ck} (h1 : c.kind ≠ 1) (h2 : c.kind ≠ 2) (h3 : c.kind ≠ 3) : mayB c = false := by
  unfold mayB
  rw [if_neg h1, if_neg h2, if_neg h3]
theorem lead_few {c : Ck} (h : leadB c = true) : c.kids.length ≤ 6 ∧ c.data.size = 0 := by
  simp only [leadB, Bool.and_eq_true, decide_eq_true_eq] at h
  exact ⟨h.1.2, h.1.1⟩
set_option maxRecDepth 100000 in
set_option maxHeartbeats 2000000 in
theorem may_any (c : Ck) (A : Option Addr) (n : Nat) (w : World) (h : CkR w c A n) :
    Calls Try.prog 22 #[.agg (ccs c A n)] w fun e w' => e = .returned (.bool (mayB c)) ∧ Kp (fun _ => False) w w' := by
  obtain ⟨W, hW, b0, k0⟩ : ∃ W, W = w.alloc (.cells (ccs c A n) 25) ∧ Box W w.heap.size 25 (ccs c A n) ∧ Kp (fun _ => False) w W := ⟨_, rfl, Box.new w _ _, (Kp.refl _ w).alloc _⟩
  have HW := Lib.hid hW
  have K0 := Lib.hid k0
  have HF : Hid (∀ v, Kp (fun _ => False) W v → CkR v c A n ∧ v.cell? ⟨w.heap.size, 0, none⟩ = some (.int .u8 c.kind) ∧ v.cell? ⟨w.heap.size, 1, none⟩ = some (.string c.data) ∧ v.cell? ⟨w.heap.size, 2, none⟩ = some (.slice A c.kids.length n)) := Lib.hid fun v hv =>
    ⟨h.still (k0.trans hv), (b0.kp hv (fun h => h)).cell 0, (b0.kp hv (fun h => h)).cell 1, (b0.kp hv (fun h => h)).cell 2⟩
  clear hW b0 k0
  obtain ⟨_, y0, y1, y2⟩ := HF.out W (Kp.refl _ _)
  have hlen : c.kids.length ≤ maxLen := Nat.le_trans h.le h.mx
  have HO := Lib.hid h.ok
  have HLEN := Lib.hid hlen
  unfold maxLen at hlen
  clear h
  by_cases h1 : c.kind = 1
  · have d1 : ((c.kind : Int) == 1) = true := by simp; omega
    have HM := Lib.hid (may_blob h1)
    clear h1
    rcases h3 : ((c.kids.length : Int) == 0) with _ | _
    · rw [h3, Bool.false_and] at HM
      go_enter Try.func22, Try.ntmps22
      go_upto_region 1 with fail
      rw [← HW.out]
      go_wp2_with fail
      go_ret
      rw [HM.out]
      exact ⟨rfl, K0.out⟩
    · rw [h3, Bool.true_and] at HM
      go_enter Try.func22, Try.ntmps22
      go_upto_region 1 with fail
      rw [← HW.out]
      go_wp2_with fail
      go_ret
      rw [HM.out]
      exact ⟨rfl, K0.out⟩
  · have d1 : ((c.kind : Int) == 1) = false := by simp; omega
    by_cases h2 : c.kind = 2
    · have d2 : ((c.kind : Int) == 2) = true := by simp; omega
      have HM := Lib.hid (may_index h2)
      clear h1 h2
      rcases hl : leadB c with _ | _
      · rw [hl, Bool.false_and, Bool.false_and, Bool.false_and] at HM
        have HL := Lib.hid hl
        clear hl
        go_enter Try.func22, Try.ntmps22
        go_upto_region 1 with fail
        rw [← HW.out]
        go_wp2_with fail
        refine (mayLead_any c A n _ (HF.out W (Kp.refl _ _)).1).mono ?_
        rintro e w1 ⟨rfl, k1⟩
        have K1 := Lib.hid k1
        clear k1
        rw [HL.out]
        go_wp2_with fail
        go_ret
        rw [HM.out]
        exact ⟨rfl, K0.out.trans K1.out⟩
      · rw [hl, Bool.true_and] at HM
        obtain ⟨hf6, hd0⟩ := lead_few hl
        have HF6 := Lib.hid hf6
        have HD0 := Lib.hid hd0
        have HL := Lib.hid hl
        clear hl hf6 hd0
        rcases h3 : decide (0 < c.kids.length) with _ | _
        · rw [h3, Bool.false_and, Bool.false_and] at HM
          have h3' : decide ((0 : Int) < c.kids.length) = false := by simpa using h3
          go_enter Try.func22, Try.ntmps22
          go_upto_region 1 with fail
          rw [← HW.out]
          go_wp2_with fail
          refine (mayLead_any c A n _ (HF.out W (Kp.refl _ _)).1).mono ?_
          rintro e w1 ⟨rfl, k1⟩
          have K1 := Lib.hid k1
          obtain ⟨_, z0, z1, z2⟩ := HF.out w1 k1
          clear k1 y0 y1 y2
          rw [HL.out]
          go_wp2_with fail
          go_ret
          rw [HM.out]
          exact ⟨rfl, K0.out.trans K1.out⟩
        · rw [h3, Bool.true_and] at HM
          have h3' : decide ((0 : Int) < c.kids.length) = true := by simpa using h3
          obtain ⟨sn, hsn⟩ : ∃ sn, sn = sizeN c := ⟨_, rfl⟩
          rw [← hsn] at HM
          have HSN := Lib.hid hsn
          clear hsn
          rcases h4 : decide ((sn : Int) ≤ 4294967295) with _ | _
          · rw [h4, Bool.false_and] at HM
            go_enter Try.func22, Try.ntmps22
            go_upto_region 1 with fail
            rw [← HW.out]
            go_wp2_with fail
            refine (mayLead_any c A n _ (HF.out W (Kp.refl _ _)).1).mono ?_
            rintro e w1 ⟨rfl, k1⟩
            have K1 := Lib.hid k1
            obtain ⟨_, z0, z1, z2⟩ := HF.out w1 k1
            clear k1 y0 y1 y2
            rw [HL.out]
            go_wp2_with fail
            refine (size_any c A n _ (HF.out w1 K1.out).1 (by have := HF6.out; omega) (by have := HD0.out; omega)).mono ?_
            rintro e w2 ⟨rfl, k2⟩
            have K2 := Lib.hid (K1.out.trans k2)
            rw [← HSN.out]
            clear k2 z0 z1 z2
            go_wp2_with fail
            go_ret
            rw [HM.out]
            exact ⟨rfl, K0.out.trans K2.out⟩
          · rw [h4, Bool.true_and] at HM
            go_enter Try.func22, Try.ntmps22
            go_upto_region 1 with fail
            rw [← HW.out]
            go_wp2_with fail
            refine (mayLead_any c A n _ (HF.out W (Kp.refl _ _)).1).mono ?_
            rintro e w1 ⟨rfl, k1⟩
            have K1 := Lib.hid k1
            obtain ⟨_, z0, z1, z2⟩ := HF.out w1 k1
            clear k1 y0 y1 y2
            rw [HL.out]
            go_wp2_with fail
            refine (size_any c A n _ (HF.out w1 K1.out).1 (by have := HF6.out; omega) (by have := HD0.out; omega)).mono ?_
            rintro e w2 ⟨rfl, k2⟩
            have K2 := Lib.hid (K1.out.trans k2)
            obtain ⟨_, u0, u1, u2⟩ := HF.out w2 (K1.out.trans k2)
            rw [← HSN.out]
            clear k2 z0 z1 z2
            go_wp2_with fail
            refine (contains_any A n c.kids _ (HF.out w2 K2.out).1.k HO.out.2 HLEN.out).mono ?_
            rintro e w3 ⟨rfl, k3⟩
            have K3 := Lib.hid (K2.out.trans k3)
            clear k3 u0 u1 u2
            go_wp2_with fail
            go_ret
            rw [HM.out]
            exact ⟨rfl, K0.out.trans K3.out⟩
    · have d2 : ((c.kind : Int) == 2) = false := by simp; omega
      by_cases h3 : c.kind = 3
      · have d3 : ((c.kind : Int) == 3) = true := by simp; omega
        have HM := Lib.hid (may_dir h3)
        clear h1 h2 h3
        rcases hl : leadB c with _ | _
        · rw [hl, Bool.false_and] at HM
          have HL := Lib.hid hl
          clear hl
          go_enter Try.func22, Try.ntmps22
          go_upto_region 1 with fail
          rw [← HW.out]
          go_wp2_with fail
          refine (mayLead_any c A n _ (HF.out W (Kp.refl _ _)).1).mono ?_
          rintro e w1 ⟨rfl, k1⟩
          have K1 := Lib.hid k1
          clear k1
          rw [HL.out]
          go_wp2_with fail
          go_ret
          rw [HM.out]
          exact ⟨rfl, K0.out.trans K1.out⟩
        · rw [hl, Bool.true_and] at HM
          have HL := Lib.hid hl
          clear hl
          go_enter Try.func22, Try.ntmps22
          go_upto_region 1 with fail
          rw [← HW.out]
          go_wp2_with fail
          refine (mayLead_any c A n _ (HF.out W (Kp.refl _ _)).1).mono ?_
          rintro e w1 ⟨rfl, k1⟩
          have K1 := Lib.hid k1
          obtain ⟨_, z0, z1, z2⟩ := HF.out w1 k1
          clear k1 y0 y1 y2
          rw [HL.out]
          go_wp2_with fail
          refine (rise_any A n c.kids _ (HF.out w1 K1.out).1.k HO.out.2 HLEN.out).mono ?_
          rintro e w3 ⟨rfl, k3⟩
          have K3 := Lib.hid (K1.out.trans k3)
          clear k3 z0 z1 z2
          go_wp2_with fail
          go_ret
          rw [HM.out]
          exact ⟨rfl, K0.out.trans K3.out⟩
      · have d3 : ((c.kind : Int) == 3) = false := by simp; omega
        have HM := Lib.hid (may_none h1 h2 h3)
        clear h1 h2 h3
        go_enter Try.func22, Try.ntmps22
        go_upto_region 1 with fail
        rw [← HW.out]
        go_wp2_with fail
        go_ret
        rw [HM.out]
        exact ⟨rfl, K0.out⟩
end Go.Proofs.Ytoonihhjdmkflaa
