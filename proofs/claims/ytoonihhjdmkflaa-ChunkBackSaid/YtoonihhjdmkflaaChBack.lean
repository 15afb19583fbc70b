/- ChunkBack: chunks and bytes answer each other. No condition. -/
import Derived.Test.YtoonihhjdmkflaaChWake
namespace Go.Proofs.Ytoonihhjdmkflaa
open Go.RowKit

def BackEnd (w : World) (e : Ending) (w' : World) : Prop := e = .returned (.bool true) ∧ Kp (fun _ => False) w w'
theorem nstr (l k : List UInt8) : ((⟨l.toArray⟩ : ByteArray).toList == (⟨k.toArray⟩ : ByteArray).toList) = (l == k) := nstr_eq l k
theorem put_eq {a b : Ck} (ha : mayB a = true) (hb : mayB b = true) (oa : a.Ok) (ob : b.Ok) : (putL a == putL b) = decide (a = b) := by
  by_cases h : a = b
  · subst h; simp
  · rw [decide_eq_false h]
    exact beq_eq_false_iff_ne.2 fun e => h (put_inj ha hb oa ob e)
set_option maxRecDepth 100000 in
set_option maxHeartbeats 16000000 in
theorem back_any (a b : Ck) (A B Sx : Option Addr) (n m c : Nat) (s : List UInt8) (w : World) (ha : CkR w a A n) (hb : CkR w b B m) (hr : Rd w Sx s) (hsl : s.length ≤ maxLen) :
    Calls Try.prog 4 #[.agg (ccs a A n), .agg (ccs b B m), .slice Sx s.length c] w (BackEnd w) := by
  obtain ⟨W, hW, b0, b1, k0⟩ : ∃ W, W = (w.alloc (.cells (ccs a A n) 32)).alloc (.cells (ccs b B m) 32) ∧ Box W w.heap.size 32 (ccs a A n) ∧ Box W (w.heap.size + 1) 32 (ccs b B m) ∧ Kp (fun _ => False) w W := ⟨_, rfl, (Box.new w _ _).alloc _, by simpa using Box.new (w.alloc (.cells (ccs a A n) 32)) 32 (ccs b B m), ((Kp.refl _ w).alloc _).alloc _⟩
  have HW := Lib.hid hW
  have K0 := Lib.hid k0
  have HA : Hid (∀ v, Kp (fun _ => False) W v → CkR v a A n) := Lib.hid fun v hv => ha.still (k0.trans hv)
  have HB : Hid (∀ v, Kp (fun _ => False) W v → CkR v b B m) := Lib.hid fun v hv => hb.still (k0.trans hv)
  have HS : Hid (∀ v, Kp (fun _ => False) W v → Rd v Sx s) := Lib.hid fun v hv => rd_still hr (k0.trans hv)
  have HBA : Hid (∀ v, Kp (fun _ => False) W v → Box v w.heap.size 32 (ccs a A n)) := Lib.hid fun v hv => b0.kp hv (fun h => h)
  have HBB : Hid (∀ v, Kp (fun _ => False) W v → Box v (w.heap.size + 1) 32 (ccs b B m)) := Lib.hid fun v hv => b1.kp hv (fun h => h)
  have HBC : Hid (∀ v, Kp (fun _ => False) W v → v.cell? ⟨w.heap.size + 1, 0, none⟩ = some (.int .u8 b.kind) ∧ v.cell? ⟨w.heap.size + 1, 1, none⟩ = some (.string b.data) ∧ v.cell? ⟨w.heap.size + 1, 2, none⟩ = some (.slice B b.kids.length m)) := Lib.hid fun v hv => ⟨(b1.kp hv (fun h => h)).cell 0, (b1.kp hv (fun h => h)).cell 1, (b1.kp hv (fun h => h)).cell 2⟩
  have HAO := Lib.hid ha.ok
  have HBO := Lib.hid hb.ok
  clear hW b0 b1 k0 ha hb hr
  unfold maxLen at hsl
  go_enter Try.func4, Try.ntmps4
  go_upto_region 1 with fail
  rw [← HW.out]
  go_wp2_with (first | (refine wpList_load_mid rfl 32 (.tmp 3) rfl w.heap.size 0 rfl (ccs a A n).toList _ (HBA.out W (Kp.refl _ _)).range Try.underlying32 rfl (by kernel_rfl) ?_) | fail)
  refine (great_any a A n _ (HA.out W (Kp.refl _ _))).mono ?_
  rintro e w1 ⟨rfl, k1⟩
  have K1 := Lib.hid k1
  clear k1
  rcases hga : gtB a with _ | _
  · have HGA := Lib.hid (gtB_no hga)
    clear hga
    obtain ⟨y0, y1, y2⟩ := HBC.out w1 K1.out
    go_wp2_with fail
    refine (great_any b B m _ (HB.out w1 K1.out)).mono ?_
    rintro e w2 ⟨rfl, k2⟩
    have K2 := Lib.hid (K1.out.trans k2)
    clear k2 y0 y1 y2
    rcases hgb : gtB b with _ | _
    · have HGB := Lib.hid (gtB_no hgb)
      clear hgb
      by_cases hs6 : (600 : Int) < s.length
      · go_wp2_with fail
        refine (wakes_true _).mono ?_
        rintro e wx ⟨rfl, kw⟩
        have KW := Lib.hid (K2.out.trans kw)
        clear kw
        go_wp2_with fail
        go_ret
        exact ⟨rfl, K0.out.trans KW.out⟩
      · have hs6' : s.length ≤ 600 := by omega
        go_upto_region 3 with fail
        clear hs6
        rcases hoa : mayB a with _ | _
        · have HOKA := Lib.hid hoa
          clear hoa
          go_wp2_with (first | (refine wpList_load_mid rfl 32 (.tmp 3) rfl w.heap.size 0 rfl (ccs a A n).toList _ (HBA.out _ K2.out).range Try.underlying32 rfl (by kernel_rfl) ?_) | fail)
          refine (of_ck a A n _ (HA.out _ K2.out) (by have := HGA.out.1; omega)).mono ?_
          rintro e w5 ⟨Q5, q5, rfl, hck, hk⟩
          have CK5 := Lib.hid hck
          have K5 := Lib.hid (K2.out.trans hk)
          clear hck hk
          go_wp2_with fail
          refine (put_no a Q5 q5 _ CK5.out HOKA.out).mono ?_
          rintro e w6 ⟨rfl, hk⟩
          have K6 := Lib.hid (K5.out.trans hk)
          clear hk
          rcases hob : mayB b with _ | _
          · have HOKB := Lib.hid hob
            clear hob
            go_wp2_with (first | (refine wpList_load_mid rfl 32 (.tmp 4) rfl (w.heap.size + 1) 0 rfl (ccs b B m).toList _ (HBB.out _ K6.out).range Try.underlying32 rfl (by kernel_rfl) ?_) | fail)
            refine (of_ck b B m _ (HB.out _ K6.out) (by have := HGB.out.1; omega)).mono ?_
            rintro e w7 ⟨Q7, q7, rfl, hck, hk⟩
            have CK7 := Lib.hid hck
            have K7 := Lib.hid (K6.out.trans hk)
            clear hck hk
            go_wp2_with fail
            refine (put_no b Q7 q7 _ CK7.out HOKB.out).mono ?_
            rintro e w8 ⟨rfl, hk⟩
            have K8 := Lib.hid (K7.out.trans hk)
            clear hk
            go_upto_region 5 with fail
            refine wp_region_held_drew (S := fun v => Kp (fun _ => False) w8 v) (by kernel_rfl) ((Kp.refl _ w8).drew) (fun hHeld => ?_)
            refine tk 0 (h := ?_)
            refine tk 1 (h := ?_)
            refine tk 2 (h := ?_)
            refine sk 3 (h := ?_)
            refine sk 4 (h := ?_)
            refine tk 5 (h := ?_)
            refine tk 6 (h := ?_)
            refine sk 7 (h := ?_)
            refine sk 8 (h := ?_)
            refine sk 9 (h := ?_)
            refine sk 10 (h := ?_)
            refine sk 11 (h := ?_)
            refine sk 12 (h := ?_)
            refine sk 13 (h := ?_)
            refine sk 14 (h := ?_)
            refine sk 15 (h := ?_)
            refine sk 16 (h := ?_)
            refine sk 17 (h := ?_)
            refine tk 18 (h := ?_)
            refine wpAnyH_done (by kernel_rfl) ?_ _
            clear hHeld
            have KZ := Lib.hid (K8.out.trans (Kp.refl _ w8).drew)
            obtain ⟨wz, hwz⟩ : ∃ v, v = w8.drew := ⟨_, rfl⟩
            rw [← hwz] at KZ ⊢
            clear hwz
            go_upto_region 16 with fail
            go_wp2_with fail
            refine (take_any Sx s.length c s _ rfl (HS.out _ KZ.out) (by omega)).mono ?_
            rintro e wt ⟨At, nt, he, hct, hk⟩
            have KT := Lib.hid (KZ.out.trans hk)
            clear hk
            rcases takeC_cases s with hts | ⟨ct, hts, hmt, hpt, hot, _⟩
            · rw [hts] at he
              obtain rfl : e = .returned (.tuple #[.agg #[.int .u8 0, .string ⟨#[]⟩, .slice At 0 nt], .int .i64 3]) := he
              clear hts hct
              go_upto_region 17 with (first | (refine wpList_new rfl rfl 25 rfl (.tmp 14) (.tmp 102) rfl zCk [.int .u8 0, .string ⟨#[]⟩, .slice At 0 nt] rfl (fun _ => rfl) (fun _ => rfl) (ccs_one ck0 At nt) ?_; intro wu gu hgu hbu hku; have HBU := Lib.hid hbu; have KU := Lib.hid (KT.out.trans hku); clear hgu hbu hku) | fail)
              have z0 : wu.cell? ⟨gu, 0, none⟩ = some (.int .u8 0) := HBU.out.cell 0
              have z2 : wu.cell? ⟨gu, 2, none⟩ = some (.slice At 0 nt) := HBU.out.cell 2
              go_wp2_with fail
              refine (wakes_true _).mono ?_
              rintro e wx ⟨rfl, kw⟩
              have KW := Lib.hid (KU.out.trans kw)
              clear kw
              go_wp2_with fail
              go_ret
              exact ⟨rfl, K0.out.trans KW.out⟩
            · rw [hts] at he hct
              obtain rfl : e = .returned (.tuple #[.agg (ccs ct At nt), .int .i64 0]) := he
              have HCT := Lib.hid hct
              have HMT := Lib.hid hmt
              have HPT := Lib.hid hpt
              have HOT := Lib.hid hot
              clear hts hct hmt hpt hot
              go_upto_region 17 with (first | (refine wpList_new rfl rfl 25 rfl (.tmp 14) (.tmp 102) rfl zCk (ccs ct At nt).toList rfl (fun _ => rfl) (fun _ => rfl) (ccs_one ct At nt) ?_; intro wu gu hgu hbu hku; have HBU := Lib.hid hbu; have HCU := Lib.hid (HCT.out.still hku); have KU := Lib.hid (KT.out.trans hku); clear hgu hbu hku) | fail)
              go_wp2_with (first | (refine wpList_load_mid rfl 25 (.tmp 14) rfl gu 0 rfl (ccs ct At nt).toList _ HBU.out.range' Try.underlying25 rfl (by kernel_rfl) ?_) | fail)
              refine (put_yes ct At nt _ HCU.out HMT.out).mono ?_
              rintro e wv ⟨Dv, dv, rfl, _, _, hrv, _, hk⟩
              have KV := Lib.hid (KU.out.trans hk)
              rw [HPT.out] at hrv ⊢
              have hcv1 := hrv.text (P := Try.prog) 29 9 5 dv Try.underlying29 Try.underlying5 Try.underlying9
              have hcv2 := (HS.out wv KV.out).text (P := Try.prog) 29 9 5 c Try.underlying29 Try.underlying5 Try.underlying9
              clear hk hrv
              go_wp2_with fail
              refine (wakes_true _).mono ?_
              rintro e wx ⟨rfl, kw⟩
              have KW := Lib.hid (KV.out.trans kw)
              clear kw hcv1 hcv2
              go_wp2_with fail
              go_ret
              exact ⟨rfl, K0.out.trans KW.out⟩
          · have HOKB := Lib.hid hob
            clear hob
            go_wp2_with (first | (refine wpList_load_mid rfl 32 (.tmp 4) rfl (w.heap.size + 1) 0 rfl (ccs b B m).toList _ (HBB.out _ K6.out).range Try.underlying32 rfl (by kernel_rfl) ?_) | fail)
            refine (of_ck b B m _ (HB.out _ K6.out) (by have := HGB.out.1; omega)).mono ?_
            rintro e w7 ⟨Q7, q7, rfl, hck, hk⟩
            have CK7 := Lib.hid hck
            have K7 := Lib.hid (K6.out.trans hk)
            clear hck hk
            go_wp2_with fail
            refine (put_yes b Q7 q7 _ CK7.out HOKB.out).mono ?_
            rintro e w8 ⟨Db, db, rfl, hd1, hd2, hrd, _, hk⟩
            have Rb := Lib.hid hrd
            have K8 := Lib.hid (K7.out.trans hk)
            clear hrd hk hd1 hd2
            go_upto_region 5 with fail
            refine wp_region_held_drew (S := fun v => Kp (fun _ => False) w8 v) (by kernel_rfl) ((Kp.refl _ w8).drew) (fun hHeld => ?_)
            refine tk 0 (h := ?_)
            refine tk 1 (h := ?_)
            refine tk 2 (h := ?_)
            refine sk 3 (h := ?_)
            refine sk 4 (h := ?_)
            refine tk 5 (h := ?_)
            refine tk 6 (h := ?_)
            refine sk 7 (h := ?_)
            refine sk 8 (h := ?_)
            refine sk 9 (h := ?_)
            refine sk 10 (h := ?_)
            refine sk 11 (h := ?_)
            refine sk 12 (h := ?_)
            refine sk 13 (h := ?_)
            refine sk 14 (h := ?_)
            refine sk 15 (h := ?_)
            refine sk 16 (h := ?_)
            refine sk 17 (h := ?_)
            refine tk 18 (h := ?_)
            refine wpAnyH_done (by kernel_rfl) ?_ _
            clear hHeld
            have KZ := Lib.hid (K8.out.trans (Kp.refl _ w8).drew)
            obtain ⟨wz, hwz⟩ : ∃ v, v = w8.drew := ⟨_, rfl⟩
            rw [← hwz] at KZ ⊢
            clear hwz
            go_upto_region 16 with fail
            go_wp2_with fail
            refine (take_any Sx s.length c s _ rfl (HS.out _ KZ.out) (by omega)).mono ?_
            rintro e wt ⟨At, nt, he, hct, hk⟩
            have KT := Lib.hid (KZ.out.trans hk)
            clear hk
            rcases takeC_cases s with hts | ⟨ct, hts, hmt, hpt, hot, _⟩
            · rw [hts] at he
              obtain rfl : e = .returned (.tuple #[.agg #[.int .u8 0, .string ⟨#[]⟩, .slice At 0 nt], .int .i64 3]) := he
              clear hts hct
              go_upto_region 17 with (first | (refine wpList_new rfl rfl 25 rfl (.tmp 14) (.tmp 102) rfl zCk [.int .u8 0, .string ⟨#[]⟩, .slice At 0 nt] rfl (fun _ => rfl) (fun _ => rfl) (ccs_one ck0 At nt) ?_; intro wu gu hgu hbu hku; have HBU := Lib.hid hbu; have KU := Lib.hid (KT.out.trans hku); clear hgu hbu hku) | fail)
              have z0 : wu.cell? ⟨gu, 0, none⟩ = some (.int .u8 0) := HBU.out.cell 0
              have z2 : wu.cell? ⟨gu, 2, none⟩ = some (.slice At 0 nt) := HBU.out.cell 2
              go_wp2_with fail
              refine (wakes_true _).mono ?_
              rintro e wx ⟨rfl, kw⟩
              have KW := Lib.hid (KU.out.trans kw)
              clear kw
              go_wp2_with fail
              go_ret
              exact ⟨rfl, K0.out.trans KW.out⟩
            · rw [hts] at he hct
              obtain rfl : e = .returned (.tuple #[.agg (ccs ct At nt), .int .i64 0]) := he
              have HCT := Lib.hid hct
              have HMT := Lib.hid hmt
              have HPT := Lib.hid hpt
              have HOT := Lib.hid hot
              clear hts hct hmt hpt hot
              go_upto_region 17 with (first | (refine wpList_new rfl rfl 25 rfl (.tmp 14) (.tmp 102) rfl zCk (ccs ct At nt).toList rfl (fun _ => rfl) (fun _ => rfl) (ccs_one ct At nt) ?_; intro wu gu hgu hbu hku; have HBU := Lib.hid hbu; have HCU := Lib.hid (HCT.out.still hku); have KU := Lib.hid (KT.out.trans hku); clear hgu hbu hku) | fail)
              go_wp2_with (first | (refine wpList_load_mid rfl 25 (.tmp 14) rfl gu 0 rfl (ccs ct At nt).toList _ HBU.out.range' Try.underlying25 rfl (by kernel_rfl) ?_) | fail)
              refine (put_yes ct At nt _ HCU.out HMT.out).mono ?_
              rintro e wv ⟨Dv, dv, rfl, _, _, hrv, _, hk⟩
              have KV := Lib.hid (KU.out.trans hk)
              rw [HPT.out] at hrv ⊢
              have hcv1 := hrv.text (P := Try.prog) 29 9 5 dv Try.underlying29 Try.underlying5 Try.underlying9
              have hcv2 := (HS.out wv KV.out).text (P := Try.prog) 29 9 5 c Try.underlying29 Try.underlying5 Try.underlying9
              clear hk hrv
              go_wp2_with fail
              refine (wakes_true _).mono ?_
              rintro e wx ⟨rfl, kw⟩
              have KW := Lib.hid (KV.out.trans kw)
              clear kw hcv1 hcv2
              go_wp2_with fail
              go_ret
              exact ⟨rfl, K0.out.trans KW.out⟩
        · have HOKA := Lib.hid hoa
          clear hoa
          go_wp2_with (first | (refine wpList_load_mid rfl 32 (.tmp 3) rfl w.heap.size 0 rfl (ccs a A n).toList _ (HBA.out _ K2.out).range Try.underlying32 rfl (by kernel_rfl) ?_) | fail)
          refine (of_ck a A n _ (HA.out _ K2.out) (by have := HGA.out.1; omega)).mono ?_
          rintro e w5 ⟨Q5, q5, rfl, hck, hk⟩
          have CK5 := Lib.hid hck
          have K5 := Lib.hid (K2.out.trans hk)
          clear hck hk
          go_wp2_with fail
          refine (put_yes a Q5 q5 _ CK5.out HOKA.out).mono ?_
          rintro e w6 ⟨Da, da, rfl, hd1, hd2, hrd, _, hk⟩
          have Ra := Lib.hid hrd
          have K6 := Lib.hid (K5.out.trans hk)
          clear hrd hk hd1 hd2
          rcases hob : mayB b with _ | _
          · have HOKB := Lib.hid hob
            clear hob
            go_wp2_with (first | (refine wpList_load_mid rfl 32 (.tmp 4) rfl (w.heap.size + 1) 0 rfl (ccs b B m).toList _ (HBB.out _ K6.out).range Try.underlying32 rfl (by kernel_rfl) ?_) | fail)
            refine (of_ck b B m _ (HB.out _ K6.out) (by have := HGB.out.1; omega)).mono ?_
            rintro e w7 ⟨Q7, q7, rfl, hck, hk⟩
            have CK7 := Lib.hid hck
            have K67 := Lib.hid hk
            have K7 := Lib.hid (K6.out.trans hk)
            clear hck hk
            go_wp2_with fail
            refine (put_no b Q7 q7 _ CK7.out HOKB.out).mono ?_
            rintro e w8 ⟨rfl, hk⟩
            have K68 := K67.out.trans hk
            have K8 := Lib.hid (K7.out.trans hk)
            clear hk
            have K56 : Hid (Kp (fun _ => False) w6 w8) := Lib.hid K68
            go_upto_region 5 with fail
            refine wp_region_held_drew (S := fun v => Kp (fun _ => False) w8 v) (by kernel_rfl) ((Kp.refl _ w8).drew) (fun hHeld => ?_)
            refine tk 0 (h := ?_)
            refine tk 1 (h := ?_)
            refine tk 2 (h := ?_)
            refine tk 3 (h := ?_)
            refine tk 4 (h := ?_)
            refine tk 5 (h := ?_)
            refine tk 6 (h := ?_)
            refine sk 7 (h := ?_)
            refine sk 8 (h := ?_)
            refine sk 9 (h := ?_)
            refine sk 10 (h := ?_)
            refine sk 11 (h := ?_)
            refine sk 12 (h := ?_)
            refine sk 13 (h := ?_)
            refine sk 14 (h := ?_)
            refine sk 15 (h := ?_)
            refine sk 16 (h := ?_)
            refine sk 17 (h := ?_)
            refine tk 18 (h := ?_)
            refine wpAnyH_done (by kernel_rfl) ?_ _
            clear hHeld
            have KZ := Lib.hid (K8.out.trans (Kp.refl _ w8).drew)
            have RZ := Lib.hid (rd_still Ra.out (K56.out.trans (Kp.refl _ w8).drew))
            obtain ⟨wz, hwz⟩ : ∃ v, v = w8.drew := ⟨_, rfl⟩
            rw [← hwz] at KZ RZ ⊢
            clear hwz
            go_wp2_with fail
            refine (take_any Da (putL a).length da (putL a) _ rfl RZ.out (by have := put_len HOKA.out HAO.out; omega)).mono ?_
            rintro e wc ⟨Ac, nc, he, hcc, hk⟩
            rw [take_put HOKA.out HAO.out] at he hcc
            obtain rfl : e = .returned (.tuple #[.agg (ccs a Ac nc), .int .i64 0]) := he
            have HCC := Lib.hid hcc
            have KC := Lib.hid (KZ.out.trans hk)
            clear hcc hk
            go_upto_region 9 with (first | (refine wpList_new rfl rfl 25 rfl (.tmp 11) (.tmp 66) rfl zCk (ccs a Ac nc).toList rfl (fun _ => rfl) (fun _ => rfl) (ccs_one a Ac nc) ?_; intro wd gd hgd hbd hkd; have HBD := Lib.hid hbd; have HCD := Lib.hid (HCC.out.still hkd); have KD := Lib.hid (KC.out.trans hkd); clear hgd hbd hkd) | fail)
            have hpl : ¬ (340 : Int) < ((putL a).length : Int) := by have := put_len HOKA.out HAO.out; omega
            obtain ⟨pl, hple⟩ : ∃ pl, pl = (putL a).length := ⟨_, rfl⟩
            rw [← hple] at hpl ⊢
            have HPL := Lib.hid hple
            clear hple
            refine wp_region_held_drew (S := fun v => Kp (fun _ => False) wd v) (by kernel_rfl) ((Kp.refl _ wd).drew) (fun hHeld => ?_)
            refine tk 0 (h := ?_)
            refine tk 1 (h := ?_)
            refine tk 2 (h := ?_)
            refine tk 3 (hy := fun v hv => nexec_load 25 (.tmp 11) rfl gd 0 rfl (ccs a Ac nc).toList _ (Box.range (HBD.out.kp hv (fun e => e))) Try.underlying25 rfl (by kernel_rfl)) (h := ?_)
            refine tk 4 (hy := fun v hv => nexec_load 32 (.tmp 3) rfl w.heap.size 0 rfl (ccs a A n).toList _ (HBA.out v (KD.out.trans hv)).range Try.underlying32 rfl (by kernel_rfl)) (h := ?_)
            refine rd 5 (h := fun K hK => ?_)
            go_simp
            refine (of_ck a A n _ (HA.out _ (KD.out.trans (Kp.refl _ wd).drew)) (by have := HGA.out.1; omega)).mono ?_
            rintro e we ⟨Ae, ne, rfl, hce, hk⟩
            have HCE := Lib.hid hce
            have KE := Lib.hid ((Kp.refl (fun _ => False) wd).drew.trans hk)
            clear hce hk
            go_wp2_with fail
            refine hK.out _ _ (KE.out) (fun hHeld1 => ?_)
            clear hK K
            try simp only [Act.put, List.setIfInBounds_toArray, List.set_cons_zero, List.set_cons_succ]
            refine rd 6 (h := fun K hK => ?_)
            go_simp
            refine (same_any a a Ac Ae nc ne _ (HCD.out.still KE.out) HCE.out).mono ?_
            rintro e wf ⟨rfl, hk⟩
            rw [show decide (a = a) = true from by simp]
            have KF := Lib.hid (KE.out.trans hk)
            clear hk
            go_wp2_with fail
            refine hK.out _ _ (KF.out) (fun hHeld2 => ?_)
            clear hK K
            try simp only [Act.put, List.setIfInBounds_toArray, List.set_cons_zero, List.set_cons_succ]
            refine tk 7 (h := ?_)
            refine tk 8 (h := ?_)
            refine tk 9 (h := ?_)
            refine tk 10 (h := ?_)
            refine tk 11 (h := ?_)
            refine tk 12 (h := ?_)
            refine tk 13 (h := ?_)
            refine wpAnyH_done (by kernel_rfl) ?_ _
            have KG := Lib.hid (KD.out.trans KF.out)
            have HBF := Lib.hid (HBD.out.kp KF.out (fun e => e))
            have HCF := Lib.hid (HCD.out.still KF.out)
            clear hHeld
            go_wp2_with fail
            clear hpl
            go_loopw [13] (fun s13 wr => ∃ k : Nat, k ≤ a.kids.length ∧ s13 = .int .i64 k ∧ Kp (fun _ => False) wf wr) (fun s13 _ => a.kids.length - (Go.RowKit.intOf s13).toNat)
            case atStart => exact ⟨0, Nat.zero_le _, rfl, Kp.refl _ _⟩
            case round =>
              obtain ⟨k, hk, rfl, hkp⟩ := hrel
              have KR := Lib.hid hkp
              clear hkp
              have y2 : wr.cell? ⟨gd, 2, none⟩ = some (.slice Ac a.kids.length nc) := (HBF.out.kp KR.out (fun e => e)).cell 2
              have hlm : a.kids.length ≤ 20 := HGA.out.1
              by_cases hlt : k < a.kids.length
              · obtain ⟨x, hx⟩ : ∃ x, a.kids[k]? = some x := ⟨_, List.getElem?_eq_getElem hlt⟩
                have hab : x.ht < heightN a := above HOKA.out (List.mem_of_getElem? hx)
                obtain ⟨bb, o, hAc, hrg⟩ := (HCF.out.k.still KR.out).at hx
                have XO := Lib.hid (HAO.out.2 x (List.mem_of_getElem? hx))
                have hx2 := XO.out.2.1
                obtain ⟨p, hp⟩ : ∃ p, o + k * 36 = p := ⟨_, rfl⟩
                rw [show o + 36 * k = p by omega] at hrg
                have yh : Hid (wr.cell? ⟨bb, p + 34, none⟩ = some (.int .u8 x.ht)) := Lib.hid (kid_cells hrg XO.out).2.2.1
                obtain ⟨hn, hhn⟩ : ∃ hn, hn = heightN a := ⟨_, rfl⟩
                have HHN := Lib.hid hhn
                rw [← hhn] at hab
                have hwx : IntKind.i64.wrap (x.ht : Int) = (x.ht : Int) := IntWalk.i64_in _ (by omega)
                have hdd : decide ((hn : Int) ≤ (x.ht : Int)) = false := by simp; omega
                have hdd' : decide (hn ≤ x.ht) = false := by simp; omega
                have HAC := Lib.hid hAc
                have HHT : Hid (∀ v, Kp (fun _ => False) wr v → Calls Try.prog 12 #[.agg (ccs a Ac nc)] v fun e w' => e = .returned (.int .i64 hn) ∧ Kp (fun _ => False) v w') := Lib.hid fun v hv => by
                  rw [hhn]
                  exact height_any a Ac nc v (HCF.out.still (KR.out.trans hv))
                have HZ : Hid (∀ v, Kp (fun _ => False) wr v → v.cell? ⟨gd, 2, none⟩ = some (.slice (some ⟨bb, o, none⟩) a.kids.length nc) ∧ v.cell? ⟨bb, p + 34, none⟩ = some (.int .u8 x.ht)) := Lib.hid fun v hv => by
                  have u : v.cell? ⟨gd, 2, none⟩ = some (.slice Ac a.kids.length nc) := (HBF.out.kp (KR.out.trans hv) (fun e => e)).cell 2
                  rw [HAC.out] at u
                  exact ⟨u, (hv.cell (p := ⟨bb, p + 34, none⟩) (World.block_lt_of_cell? wr ⟨bb, p + 34, none⟩ yh.out) (fun h => h)).trans yh.out⟩
                clear hrg hx hhn hAc hab
                go_upto_region 14 with fail
                clear y2
                refine wp_region_quiet (C := fun v => Kp (fun _ => False) (wr) v) (by kernel_rfl) (by kernel_rfl) ((Kp.refl _ _).drew) (Wq.out ?_)
                refine qld gd 0 (ccs a Ac nc).toList (fun v hv => (HBF.out.kp (KR.out.trans hv) (fun e => e)).range) Try.underlying25 (h := ?_)
                refine qtk (hy := fun v hv => by (unfold Oper.quietAt; go_simp; exact (HHT.out v hv).mono (fun e w1 h => ⟨h.1, hv.trans h.2⟩))) (h := ?_)
                refine qtk (h := ?_)
                refine qtk (hy := fun v hv => by (obtain ⟨u, u'⟩ := HZ.out v hv; unfold Oper.quietAt; go_simp; with_reducible rfl)) (h := ?_)
                refine qtk (h := ?_)
                refine qtk (h := ?_)
                refine qtk (h := ?_)
                refine qtk (hy := fun v hv => by (obtain ⟨u, u'⟩ := HZ.out v hv; unfold Oper.quietAt; go_simp; with_reducible rfl)) (h := ?_)
                refine qtk (h := ?_)
                refine qtk (h := ?_)
                refine Wq.mk (wpQuiet_nil ?_)
                intro w9 hw9
                have K9 := Lib.hid (KR.out.trans hw9)
                clear hw9 hx2 hwx
                go_wp2_with fail
                go_roundw
                case rel => exact ⟨k + 1, by omega, by go_num, K9.out⟩
                case measure => simp [Go.RowKit.intOf]; omega
              · obtain ⟨wz2, hwz2⟩ : ∃ v, v = wr := ⟨_, rfl⟩
                have KZ := Lib.hid (KG.out.trans KR.out)
                go_upto_region 16 with fail
                clear y2 hlt hk
                go_wp2_with fail
                refine (take_any Sx s.length c s _ rfl (HS.out _ KZ.out) (by omega)).mono ?_
                rintro e wt ⟨At, nt, he, hct, hk⟩
                have KT := Lib.hid (KZ.out.trans hk)
                clear hk
                rcases takeC_cases s with hts | ⟨ct, hts, hmt, hpt, hot, _⟩
                · rw [hts] at he
                  obtain rfl : e = .returned (.tuple #[.agg #[.int .u8 0, .string ⟨#[]⟩, .slice At 0 nt], .int .i64 3]) := he
                  clear hts hct
                  go_upto_region 17 with (first | (refine wpList_new rfl rfl 25 rfl (.tmp 14) (.tmp 102) rfl zCk [.int .u8 0, .string ⟨#[]⟩, .slice At 0 nt] rfl (fun _ => rfl) (fun _ => rfl) (ccs_one ck0 At nt) ?_; intro wu gu hgu hbu hku; have HBU := Lib.hid hbu; have KU := Lib.hid (KT.out.trans hku); clear hgu hbu hku) | fail)
                  have z0 : wu.cell? ⟨gu, 0, none⟩ = some (.int .u8 0) := HBU.out.cell 0
                  have z2 : wu.cell? ⟨gu, 2, none⟩ = some (.slice At 0 nt) := HBU.out.cell 2
                  go_wp2_with fail
                  refine (wakes_true _).mono ?_
                  rintro e wx ⟨rfl, kw⟩
                  have KW := Lib.hid (KU.out.trans kw)
                  clear kw
                  go_wp2_with fail
                  go_ret
                  exact ⟨rfl, K0.out.trans KW.out⟩
                · rw [hts] at he hct
                  obtain rfl : e = .returned (.tuple #[.agg (ccs ct At nt), .int .i64 0]) := he
                  have HCT := Lib.hid hct
                  have HMT := Lib.hid hmt
                  have HPT := Lib.hid hpt
                  have HOT := Lib.hid hot
                  clear hts hct hmt hpt hot
                  go_upto_region 17 with (first | (refine wpList_new rfl rfl 25 rfl (.tmp 14) (.tmp 102) rfl zCk (ccs ct At nt).toList rfl (fun _ => rfl) (fun _ => rfl) (ccs_one ct At nt) ?_; intro wu gu hgu hbu hku; have HBU := Lib.hid hbu; have HCU := Lib.hid (HCT.out.still hku); have KU := Lib.hid (KT.out.trans hku); clear hgu hbu hku) | fail)
                  go_wp2_with (first | (refine wpList_load_mid rfl 25 (.tmp 14) rfl gu 0 rfl (ccs ct At nt).toList _ HBU.out.range' Try.underlying25 rfl (by kernel_rfl) ?_) | fail)
                  refine (put_yes ct At nt _ HCU.out HMT.out).mono ?_
                  rintro e wv ⟨Dv, dv, rfl, _, _, hrv, _, hk⟩
                  have KV := Lib.hid (KU.out.trans hk)
                  rw [HPT.out] at hrv ⊢
                  have hcv1 := hrv.text (P := Try.prog) 29 9 5 dv Try.underlying29 Try.underlying5 Try.underlying9
                  have hcv2 := (HS.out wv KV.out).text (P := Try.prog) 29 9 5 c Try.underlying29 Try.underlying5 Try.underlying9
                  clear hk hrv
                  go_wp2_with fail
                  refine (wakes_true _).mono ?_
                  rintro e wx ⟨rfl, kw⟩
                  have KW := Lib.hid (KV.out.trans kw)
                  clear kw hcv1 hcv2
                  go_wp2_with fail
                  go_ret
                  exact ⟨rfl, K0.out.trans KW.out⟩
          · have HOKB := Lib.hid hob
            clear hob
            go_wp2_with (first | (refine wpList_load_mid rfl 32 (.tmp 4) rfl (w.heap.size + 1) 0 rfl (ccs b B m).toList _ (HBB.out _ K6.out).range Try.underlying32 rfl (by kernel_rfl) ?_) | fail)
            refine (of_ck b B m _ (HB.out _ K6.out) (by have := HGB.out.1; omega)).mono ?_
            rintro e w7 ⟨Q7, q7, rfl, hck, hk⟩
            have CK7 := Lib.hid hck
            have K67 := Lib.hid hk
            have K7 := Lib.hid (K6.out.trans hk)
            clear hck hk
            go_wp2_with fail
            refine (put_yes b Q7 q7 _ CK7.out HOKB.out).mono ?_
            rintro e w8 ⟨Db, db, rfl, hd1, hd2, hrd, _, hk⟩
            have Rb := Lib.hid hrd
            have K68 := K67.out.trans hk
            have K8 := Lib.hid (K7.out.trans hk)
            clear hrd hk hd1 hd2
            have K56 : Hid (Kp (fun _ => False) w6 w8) := Lib.hid K68
            go_upto_region 5 with fail
            have R5a : Hid (∀ v, Kp (fun _ => False) w8 v → Rd v Da (putL a)) := Lib.hid fun v hv => rd_still Ra.out (K56.out.trans hv)
            have R5b : Hid (∀ v, Kp (fun _ => False) w8 v → Rd v Db (putL b)) := Lib.hid fun v hv => rd_still Rb.out hv
            obtain ⟨sb, hsb⟩ : ∃ sb, sb = (putL a == putL b) := ⟨_, rfl⟩
            have hstr : ((⟨(putL a).toArray⟩ : ByteArray).toList == (⟨(putL b).toArray⟩ : ByteArray).toList) = sb := by rw [nstr, hsb]
            have hstr2 : (putL a == putL b) = sb := hsb.symm
            have HDAB : Hid (decide (a = b) = sb) := Lib.hid (by rw [hsb, put_eq HOKA.out HOKB.out HAO.out HBO.out])
            clear hsb
            refine wp_region_held_drew (S := fun v => Kp (fun _ => False) w8 v) (by kernel_rfl) ((Kp.refl _ w8).drew) (fun hHeld => ?_)
            refine tk 0 (h := ?_)
            refine tk 1 (h := ?_)
            refine tk 2 (h := ?_)
            refine tk 3 (h := ?_)
            refine tk 4 (h := ?_)
            refine tk 5 (h := ?_)
            refine tk 6 (h := ?_)
            refine tk 7 (h := ?_)
            refine tk 8 (hy := fun v hv => by (have hcv := (R5a.out v hv).text (P := Try.prog) 29 9 5 da Try.underlying29 Try.underlying5 Try.underlying9; go_simp; with_reducible rfl)) (h := ?_)
            refine tk 9 (h := ?_)
            refine tk 10 (hy := fun v hv => by (have hcv := (R5b.out v hv).text (P := Try.prog) 29 9 5 db Try.underlying29 Try.underlying5 Try.underlying9; go_simp; with_reducible rfl)) (h := ?_)
            refine tk 11 (h := ?_)
            refine tk 12 (hy := fun v hv => nexec_load 32 (.tmp 3) rfl w.heap.size 0 rfl (ccs a A n).toList _ (HBA.out v (K8.out.trans hv)).range Try.underlying32 rfl (by kernel_rfl)) (h := ?_)
            refine tk 14 (hy := fun v hv => nexec_load 32 (.tmp 4) rfl (w.heap.size + 1) 0 rfl (ccs b B m).toList _ (HBB.out v (K8.out.trans hv)).range Try.underlying32 rfl (by kernel_rfl)) (h := ?_)
            refine rd 13 (h := fun K hK => ?_)
            go_simp
            refine (of_ck a A n _ (HA.out _ (K8.out.trans (Kp.refl _ w8).drew)) (by have := HGA.out.1; omega)).mono ?_
            rintro e we ⟨Ae, ne, rfl, hce, hk⟩
            have HCE := Lib.hid hce
            have KE := Lib.hid ((Kp.refl (fun _ => False) w8).drew.trans hk)
            clear hce hk
            go_wp2_with fail
            refine hK.out _ _ (KE.out) (fun hHeld3 => ?_)
            clear hK K
            try simp only [Act.put, List.setIfInBounds_toArray, List.set_cons_zero, List.set_cons_succ]
            refine rd 15 (h := fun K hK => ?_)
            go_simp
            refine (of_ck b B m _ (HB.out _ (K8.out.trans KE.out)) (by have := HGB.out.1; omega)).mono ?_
            rintro e wf ⟨Af, nf, rfl, hcf, hk⟩
            have HCF := Lib.hid hcf
            have HCE2 := Lib.hid (HCE.out.still hk)
            have KF := Lib.hid (KE.out.trans hk)
            clear hcf hk
            go_wp2_with fail
            refine hK.out _ _ (KF.out) (fun hHeld4 => ?_)
            clear hK K
            try simp only [Act.put, List.setIfInBounds_toArray, List.set_cons_zero, List.set_cons_succ]
            refine rd 16 (h := fun K hK => ?_)
            go_simp
            refine (same_any a b Ae Af ne nf _ HCE2.out HCF.out).mono ?_
            rintro e wg ⟨rfl, hk⟩
            rw [HDAB.out]
            have KG := Lib.hid (KF.out.trans hk)
            clear hk
            go_wp2_with fail
            refine hK.out _ _ (KG.out) (fun hHeld5 => ?_)
            clear hK K
            try simp only [Act.put, List.setIfInBounds_toArray, List.set_cons_zero, List.set_cons_succ]
            refine tk 17 (h := ?_)
            refine tk 18 (h := ?_)
            refine wpAnyH_done (by kernel_rfl) ?_ _
            clear hstr hstr2 hHeld
            have KZ := Lib.hid (K8.out.trans KG.out)
            have RZ := Lib.hid (R5a.out wg KG.out)
            obtain ⟨wz, hwz⟩ : ∃ v, v = wg := ⟨_, rfl⟩
            rw [← hwz] at KZ RZ ⊢
            clear hwz KG KF KE HCE HCE2 HCF
            go_wp2_with fail
            refine (take_any Da (putL a).length da (putL a) _ rfl RZ.out (by have := put_len HOKA.out HAO.out; omega)).mono ?_
            rintro e wc ⟨Ac, nc, he, hcc, hk⟩
            rw [take_put HOKA.out HAO.out] at he hcc
            obtain rfl : e = .returned (.tuple #[.agg (ccs a Ac nc), .int .i64 0]) := he
            have HCC := Lib.hid hcc
            have KC := Lib.hid (KZ.out.trans hk)
            clear hcc hk
            go_upto_region 9 with (first | (refine wpList_new rfl rfl 25 rfl (.tmp 11) (.tmp 66) rfl zCk (ccs a Ac nc).toList rfl (fun _ => rfl) (fun _ => rfl) (ccs_one a Ac nc) ?_; intro wd gd hgd hbd hkd; have HBD := Lib.hid hbd; have HCD := Lib.hid (HCC.out.still hkd); have KD := Lib.hid (KC.out.trans hkd); clear hgd hbd hkd) | fail)
            have hpl : ¬ (340 : Int) < ((putL a).length : Int) := by have := put_len HOKA.out HAO.out; omega
            obtain ⟨pl, hple⟩ : ∃ pl, pl = (putL a).length := ⟨_, rfl⟩
            rw [← hple] at hpl ⊢
            have HPL := Lib.hid hple
            clear hple
            refine wp_region_held_drew (S := fun v => Kp (fun _ => False) wd v) (by kernel_rfl) ((Kp.refl _ wd).drew) (fun hHeld => ?_)
            refine tk 0 (h := ?_)
            refine tk 1 (h := ?_)
            refine tk 2 (h := ?_)
            refine tk 3 (hy := fun v hv => nexec_load 25 (.tmp 11) rfl gd 0 rfl (ccs a Ac nc).toList _ (Box.range (HBD.out.kp hv (fun e => e))) Try.underlying25 rfl (by kernel_rfl)) (h := ?_)
            refine tk 4 (hy := fun v hv => nexec_load 32 (.tmp 3) rfl w.heap.size 0 rfl (ccs a A n).toList _ (HBA.out v (KD.out.trans hv)).range Try.underlying32 rfl (by kernel_rfl)) (h := ?_)
            refine rd 5 (h := fun K hK => ?_)
            go_simp
            refine (of_ck a A n _ (HA.out _ (KD.out.trans (Kp.refl _ wd).drew)) (by have := HGA.out.1; omega)).mono ?_
            rintro e we ⟨Ae, ne, rfl, hce, hk⟩
            have HCE := Lib.hid hce
            have KE := Lib.hid ((Kp.refl (fun _ => False) wd).drew.trans hk)
            clear hce hk
            go_wp2_with fail
            refine hK.out _ _ (KE.out) (fun hHeld6 => ?_)
            clear hK K
            try simp only [Act.put, List.setIfInBounds_toArray, List.set_cons_zero, List.set_cons_succ]
            refine rd 6 (h := fun K hK => ?_)
            go_simp
            refine (same_any a a Ac Ae nc ne _ (HCD.out.still KE.out) HCE.out).mono ?_
            rintro e wf ⟨rfl, hk⟩
            rw [show decide (a = a) = true from by simp]
            have KF := Lib.hid (KE.out.trans hk)
            clear hk
            go_wp2_with fail
            refine hK.out _ _ (KF.out) (fun hHeld7 => ?_)
            clear hK K
            try simp only [Act.put, List.setIfInBounds_toArray, List.set_cons_zero, List.set_cons_succ]
            refine tk 7 (h := ?_)
            refine tk 8 (h := ?_)
            refine tk 9 (h := ?_)
            refine tk 10 (h := ?_)
            refine tk 11 (h := ?_)
            refine tk 12 (h := ?_)
            refine tk 13 (h := ?_)
            refine wpAnyH_done (by kernel_rfl) ?_ _
            have KG := Lib.hid (KD.out.trans KF.out)
            have HBF := Lib.hid (HBD.out.kp KF.out (fun e => e))
            have HCF := Lib.hid (HCD.out.still KF.out)
            clear hHeld
            go_wp2_with fail
            clear hpl
            go_loopw [13] (fun s13 wr => ∃ k : Nat, k ≤ a.kids.length ∧ s13 = .int .i64 k ∧ Kp (fun _ => False) wf wr) (fun s13 _ => a.kids.length - (Go.RowKit.intOf s13).toNat)
            case atStart => exact ⟨0, Nat.zero_le _, rfl, Kp.refl _ _⟩
            case round =>
              obtain ⟨k, hk, rfl, hkp⟩ := hrel
              have KR := Lib.hid hkp
              clear hkp
              have y2 : wr.cell? ⟨gd, 2, none⟩ = some (.slice Ac a.kids.length nc) := (HBF.out.kp KR.out (fun e => e)).cell 2
              have hlm : a.kids.length ≤ 20 := HGA.out.1
              by_cases hlt : k < a.kids.length
              · obtain ⟨x, hx⟩ : ∃ x, a.kids[k]? = some x := ⟨_, List.getElem?_eq_getElem hlt⟩
                have hab : x.ht < heightN a := above HOKA.out (List.mem_of_getElem? hx)
                obtain ⟨bb, o, hAc, hrg⟩ := (HCF.out.k.still KR.out).at hx
                have XO := Lib.hid (HAO.out.2 x (List.mem_of_getElem? hx))
                have hx2 := XO.out.2.1
                obtain ⟨p, hp⟩ : ∃ p, o + k * 36 = p := ⟨_, rfl⟩
                rw [show o + 36 * k = p by omega] at hrg
                have yh : Hid (wr.cell? ⟨bb, p + 34, none⟩ = some (.int .u8 x.ht)) := Lib.hid (kid_cells hrg XO.out).2.2.1
                obtain ⟨hn, hhn⟩ : ∃ hn, hn = heightN a := ⟨_, rfl⟩
                have HHN := Lib.hid hhn
                rw [← hhn] at hab
                have hwx : IntKind.i64.wrap (x.ht : Int) = (x.ht : Int) := IntWalk.i64_in _ (by omega)
                have hdd : decide ((hn : Int) ≤ (x.ht : Int)) = false := by simp; omega
                have hdd' : decide (hn ≤ x.ht) = false := by simp; omega
                have HAC := Lib.hid hAc
                have HHT : Hid (∀ v, Kp (fun _ => False) wr v → Calls Try.prog 12 #[.agg (ccs a Ac nc)] v fun e w' => e = .returned (.int .i64 hn) ∧ Kp (fun _ => False) v w') := Lib.hid fun v hv => by
                  rw [hhn]
                  exact height_any a Ac nc v (HCF.out.still (KR.out.trans hv))
                have HZ : Hid (∀ v, Kp (fun _ => False) wr v → v.cell? ⟨gd, 2, none⟩ = some (.slice (some ⟨bb, o, none⟩) a.kids.length nc) ∧ v.cell? ⟨bb, p + 34, none⟩ = some (.int .u8 x.ht)) := Lib.hid fun v hv => by
                  have u : v.cell? ⟨gd, 2, none⟩ = some (.slice Ac a.kids.length nc) := (HBF.out.kp (KR.out.trans hv) (fun e => e)).cell 2
                  rw [HAC.out] at u
                  exact ⟨u, (hv.cell (p := ⟨bb, p + 34, none⟩) (World.block_lt_of_cell? wr ⟨bb, p + 34, none⟩ yh.out) (fun h => h)).trans yh.out⟩
                clear hrg hx hhn hAc hab
                go_upto_region 14 with fail
                clear y2
                refine wp_region_quiet (C := fun v => Kp (fun _ => False) (wr) v) (by kernel_rfl) (by kernel_rfl) ((Kp.refl _ _).drew) (Wq.out ?_)
                refine qld gd 0 (ccs a Ac nc).toList (fun v hv => (HBF.out.kp (KR.out.trans hv) (fun e => e)).range) Try.underlying25 (h := ?_)
                refine qtk (hy := fun v hv => by (unfold Oper.quietAt; go_simp; exact (HHT.out v hv).mono (fun e w1 h => ⟨h.1, hv.trans h.2⟩))) (h := ?_)
                refine qtk (h := ?_)
                refine qtk (hy := fun v hv => by (obtain ⟨u, u'⟩ := HZ.out v hv; unfold Oper.quietAt; go_simp; with_reducible rfl)) (h := ?_)
                refine qtk (h := ?_)
                refine qtk (h := ?_)
                refine qtk (h := ?_)
                refine qtk (hy := fun v hv => by (obtain ⟨u, u'⟩ := HZ.out v hv; unfold Oper.quietAt; go_simp; with_reducible rfl)) (h := ?_)
                refine qtk (h := ?_)
                refine qtk (h := ?_)
                refine Wq.mk (wpQuiet_nil ?_)
                intro w9 hw9
                have K9 := Lib.hid (KR.out.trans hw9)
                clear hw9 hx2 hwx
                go_wp2_with fail
                go_roundw
                case rel => exact ⟨k + 1, by omega, by go_num, K9.out⟩
                case measure => simp [Go.RowKit.intOf]; omega
              · obtain ⟨wz2, hwz2⟩ : ∃ v, v = wr := ⟨_, rfl⟩
                have KZ := Lib.hid (KG.out.trans KR.out)
                go_upto_region 16 with fail
                clear y2 hlt hk
                go_wp2_with fail
                refine (take_any Sx s.length c s _ rfl (HS.out _ KZ.out) (by omega)).mono ?_
                rintro e wt ⟨At, nt, he, hct, hk⟩
                have KT := Lib.hid (KZ.out.trans hk)
                clear hk
                rcases takeC_cases s with hts | ⟨ct, hts, hmt, hpt, hot, _⟩
                · rw [hts] at he
                  obtain rfl : e = .returned (.tuple #[.agg #[.int .u8 0, .string ⟨#[]⟩, .slice At 0 nt], .int .i64 3]) := he
                  clear hts hct
                  go_upto_region 17 with (first | (refine wpList_new rfl rfl 25 rfl (.tmp 14) (.tmp 102) rfl zCk [.int .u8 0, .string ⟨#[]⟩, .slice At 0 nt] rfl (fun _ => rfl) (fun _ => rfl) (ccs_one ck0 At nt) ?_; intro wu gu hgu hbu hku; have HBU := Lib.hid hbu; have KU := Lib.hid (KT.out.trans hku); clear hgu hbu hku) | fail)
                  have z0 : wu.cell? ⟨gu, 0, none⟩ = some (.int .u8 0) := HBU.out.cell 0
                  have z2 : wu.cell? ⟨gu, 2, none⟩ = some (.slice At 0 nt) := HBU.out.cell 2
                  go_wp2_with fail
                  refine (wakes_true _).mono ?_
                  rintro e wx ⟨rfl, kw⟩
                  have KW := Lib.hid (KU.out.trans kw)
                  clear kw
                  go_wp2_with fail
                  go_ret
                  exact ⟨rfl, K0.out.trans KW.out⟩
                · rw [hts] at he hct
                  obtain rfl : e = .returned (.tuple #[.agg (ccs ct At nt), .int .i64 0]) := he
                  have HCT := Lib.hid hct
                  have HMT := Lib.hid hmt
                  have HPT := Lib.hid hpt
                  have HOT := Lib.hid hot
                  clear hts hct hmt hpt hot
                  go_upto_region 17 with (first | (refine wpList_new rfl rfl 25 rfl (.tmp 14) (.tmp 102) rfl zCk (ccs ct At nt).toList rfl (fun _ => rfl) (fun _ => rfl) (ccs_one ct At nt) ?_; intro wu gu hgu hbu hku; have HBU := Lib.hid hbu; have HCU := Lib.hid (HCT.out.still hku); have KU := Lib.hid (KT.out.trans hku); clear hgu hbu hku) | fail)
                  go_wp2_with (first | (refine wpList_load_mid rfl 25 (.tmp 14) rfl gu 0 rfl (ccs ct At nt).toList _ HBU.out.range' Try.underlying25 rfl (by kernel_rfl) ?_) | fail)
                  refine (put_yes ct At nt _ HCU.out HMT.out).mono ?_
                  rintro e wv ⟨Dv, dv, rfl, _, _, hrv, _, hk⟩
                  have KV := Lib.hid (KU.out.trans hk)
                  rw [HPT.out] at hrv ⊢
                  have hcv1 := hrv.text (P := Try.prog) 29 9 5 dv Try.underlying29 Try.underlying5 Try.underlying9
                  have hcv2 := (HS.out wv KV.out).text (P := Try.prog) 29 9 5 c Try.underlying29 Try.underlying5 Try.underlying9
                  clear hk hrv
                  go_wp2_with fail
                  refine (wakes_true _).mono ?_
                  rintro e wx ⟨rfl, kw⟩
                  have KW := Lib.hid (KV.out.trans kw)
                  clear kw hcv1 hcv2
                  go_wp2_with fail
                  go_ret
                  exact ⟨rfl, K0.out.trans KW.out⟩
    · clear hgb
      go_wp2_with fail
      refine (wakes_true _).mono ?_
      rintro e wx ⟨rfl, kw⟩
      have KW := Lib.hid (K2.out.trans kw)
      clear kw
      go_wp2_with fail
      go_ret
      exact ⟨rfl, K0.out.trans KW.out⟩
  · clear hga
    go_wp2_with fail
    refine (wakes_true _).mono ?_
    rintro e wx ⟨rfl, kw⟩
    have KW := Lib.hid (K1.out.trans kw)
    clear kw
    go_wp2_with fail
    go_ret
    exact ⟨rfl, K0.out.trans KW.out⟩
end Go.Proofs.Ytoonihhjdmkflaa
