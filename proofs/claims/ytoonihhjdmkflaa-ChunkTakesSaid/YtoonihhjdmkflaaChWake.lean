/- Chunks that are known. No condition. -/
import Derived.Test.YtoonihhjdmkflaaChOf
import Derived.Lib.SlBytesConst
namespace Go.Proofs.Ytoonihhjdmkflaa
open Go.RowKit

def chA : Ck := ⟨1, ⟨#[97, 98]⟩, []⟩
def chD : Ck := ⟨3, ⟨#[]⟩, []⟩
def chI : Ck := ⟨2, ⟨#[]⟩, []⟩
theorem chA_ok : chA.Ok := ⟨by decide, fun k hk => by cases hk⟩
theorem chD_ok : chD.Ok := ⟨by decide, fun k hk => by cases hk⟩
theorem chI_ok : chI.Ok := ⟨by decide, fun k hk => by cases hk⟩
theorem mayA : mayB chA = true := by decide
theorem mayD : mayB chD = true := by decide
theorem mayI : mayB chI = false := by decide
theorem putA : putL chA = [1, 97, 98] := by decide
theorem putD : putL chD = [3, 0] := by decide
theorem takeA : takeC [1, 97, 98] = (chA, 0) := by rw [← putA]; exact take_put mayA chA_ok
theorem take4 : takeC [4] = (ck0, 3) := by
  have h : mayB (readC [4]) = false := by decide
  unfold takeC
  rw [if_neg (by decide), h]
  rfl
theorem rd4 (w : World) (t : TypeId) (fr : Nat × Nat) : Rd (w.alloc (.cells #[.int .u8 4] t fr)) (some ⟨w.heap.size, 0, none⟩) [4] := .inr ⟨_, 0, rfl, fun j u hu => by
  rw [Nat.zero_add, World.cell?_alloc_mark]
  rcases j with _ | j
  · simp only [List.getElem?_cons_zero, Option.some.injEq] at hu
    rw [← hu]
    rfl
  · simp at hu⟩
theorem ck_lit {w : World} {c : Ck} (ho : c.Ok) (hk : c.kids = []) : CkR w c none 0 := ⟨by rw [hk]; exact .nil _ _, ho, by rw [hk]; simp, by simp [maxLen]⟩
set_option maxRecDepth 100000 in
set_option maxHeartbeats 8000000 in
theorem wakes_true (w : World) :
    Calls Try.prog 5 #[] w fun e w' => e = .returned (.bool true) ∧ Kp (fun _ => False) w w' := by
  go_enter Try.func5, Try.ntmps5
  go_upto_region 2 with (first | (refine wpList_new rfl rfl 25 rfl (.tmp 1) (.tmp 13) rfl zCk (ccs chA none 0).toList rfl (fun _ => rfl) (fun _ => rfl) (ccs_one _ _ _) ?_; intro w1 g1 hg1 hb1 hk1; have HK1 := Lib.hid hk1; have HB1 := Lib.hid hb1; clear hk1 hg1 hb1) | fail)
  go_wp2_with (first | (refine wpList_load_mid rfl 25 (.tmp 1) rfl g1 0 rfl (ccs chA none 0).toList _ HB1.out.range' Try.underlying25 rfl (by kernel_rfl) ?_) | fail)
  refine (put_yes chA none 0 _ (ck_lit chA_ok rfl) mayA).mono ?_
  rintro e w2 ⟨B2, m2, he, hm2, _, hrd, _, hk⟩
  rw [putA] at he hrd
  have K2 := Lib.hid (HK1.out.trans hk)
  have HB2 := Lib.hid (HB1.out.kp hk (fun e => e))
  have R2 := Lib.hid hrd
  obtain rfl : e = .returned (.tuple #[.slice B2 3 m2, .int .i64 0]) := he
  clear hk hrd hm2
  go_wp2_with fail
  refine (take_any B2 3 m2 [1, 97, 98] _ rfl R2.out (by decide)).mono ?_
  rintro e w3 ⟨A3, n3, he, hck, hk⟩
  rw [takeA] at he hck
  obtain rfl : e = .returned (.tuple #[.agg (ccs chA A3 n3), .int .i64 0]) := he
  have K3 := Lib.hid (K2.out.trans hk)
  have HB3 := Lib.hid (HB2.out.kp hk (fun e => e))
  have R3 := Lib.hid (rd_still R2.out hk)
  have C3 := Lib.hid hck
  clear hck hk
  go_upto_region 4 with (first | (refine wpList_new rfl rfl 25 rfl (.tmp 4) (.tmp 22) rfl zCk (ccs chA A3 n3).toList rfl (fun _ => rfl) (fun _ => rfl) (ccs_one _ _ _) ?_; intro w4 g4 hg4 hb4 hk4; have HK4 := Lib.hid hk4; have HD4 := Lib.hid hb4; clear hk4 hg4 hb4) | fail)
  have K4 := Lib.hid (K3.out.trans HK4.out)
  have HB4 := Lib.hid (HB3.out.kp HK4.out (fun e => e))
  have R4 := Lib.hid (rd_still R3.out HK4.out)
  have C4 := Lib.hid (C3.out.still HK4.out)
  go_upto_region 5 with (first | (refine wpList_new rfl rfl 25 rfl (.tmp 6) (.tmp 24) rfl zCk (ccs chD none 0).toList rfl (fun _ => rfl) (fun _ => rfl) (ccs_one _ _ _) ?_; intro w5 g5 hg5 hb5 hk5; have HK5 := Lib.hid hk5; have HE5 := Lib.hid hb5; clear hk5 hg5 hb5) | fail)
  have K5 := Lib.hid (K4.out.trans HK5.out)
  have HB5 := Lib.hid (HB4.out.kp HK5.out (fun e => e))
  have HD5 := Lib.hid (HD4.out.kp HK5.out (fun e => e))
  have R5 := Lib.hid (rd_still R4.out HK5.out)
  have C5 := Lib.hid (C4.out.still HK5.out)
  go_wp2_with (first | (refine wpList_load_mid rfl 25 (.tmp 6) rfl g5 0 rfl (ccs chD none 0).toList _ HE5.out.range' Try.underlying25 rfl (by kernel_rfl) ?_) | fail)
  refine (put_yes chD none 0 _ (ck_lit chD_ok rfl) mayD).mono ?_
  rintro e w6 ⟨B6, m6, he, hm6, _, hrd, _, hk⟩
  rw [putD] at he hrd
  obtain rfl : e = .returned (.tuple #[.slice B6 2 m6, .int .i64 0]) := he
  have K6 := Lib.hid (K5.out.trans hk)
  have HB6 := Lib.hid (HB5.out.kp hk (fun e => e))
  have HD6 := Lib.hid (HD5.out.kp hk (fun e => e))
  have HE6 := Lib.hid (HE5.out.kp hk (fun e => e))
  have R6 := Lib.hid (rd_still R5.out hk)
  have C6 := Lib.hid (C5.out.still hk)
  have S6 := Lib.hid hrd
  clear hk hrd hm6
  go_wp2_with fail
  refine (put_no chI none 0 _ (ck_lit chI_ok rfl) mayI).mono ?_
  rintro e w7 ⟨rfl, hk⟩
  have K7 := Lib.hid (K6.out.trans hk)
  have HB7 := Lib.hid (HB6.out.kp hk (fun e => e))
  have HD7 := Lib.hid (HD6.out.kp hk (fun e => e))
  have HE7 := Lib.hid (HE6.out.kp hk (fun e => e))
  have R7 := Lib.hid (rd_still R6.out hk)
  have C7 := Lib.hid (C6.out.still hk)
  have S7 := Lib.hid (rd_still S6.out hk)
  clear hk
  have kc := Lib.run_convert_bytes_const (P := Try.prog) w7 29 5 #[.int .u8 4] 1 1 Try.underlying29 Try.underlying5
  go_wp2_with fail
  clear kc
  obtain ⟨w8, hw8, hr8, hk8⟩ : ∃ w8, w8 = w7.alloc (.cells #[.int .u8 4] 5 (1, 2)) ∧ Rd w8 (some ⟨w7.heap.size, 0, none⟩) [4] ∧ Kp (fun _ => False) w7 w8 := ⟨_, rfl, rd4 w7 _ _, (Kp.refl _ w7).alloc _⟩
  rw [← hw8]
  obtain ⟨g8, hg8⟩ : ∃ g8, g8 = w7.heap.size := ⟨_, rfl⟩
  rw [← hg8] at hr8 ⊢
  have K8 := Lib.hid (K7.out.trans hk8)
  have HB8 := Lib.hid (HB7.out.kp hk8 (fun e => e))
  have HD8 := Lib.hid (HD7.out.kp hk8 (fun e => e))
  have HE8 := Lib.hid (HE7.out.kp hk8 (fun e => e))
  have R8 := Lib.hid (rd_still R7.out hk8)
  have C8 := Lib.hid (C7.out.still hk8)
  have S8 := Lib.hid (rd_still S7.out hk8)
  have T8 := Lib.hid hr8
  clear hw8 hg8 hr8 hk8
  refine (take_any (some ⟨g8, 0, none⟩) 1 1 [4] _ rfl T8.out (by decide)).mono ?_
  rintro e w9 ⟨A9, n9, he, _, hk⟩
  rw [take4] at he
  obtain rfl : e = .returned (.tuple #[.agg (ccs ck0 A9 n9), .int .i64 3]) := he
  have K9 := Lib.hid (K8.out.trans hk)
  have HB9 := Lib.hid (HB8.out.kp hk (fun e => e))
  have HD9 := Lib.hid (HD8.out.kp hk (fun e => e))
  have HE9 := Lib.hid (HE8.out.kp hk (fun e => e))
  have R9 := Lib.hid (rd_still R8.out hk)
  have C9 := Lib.hid (C8.out.still hk)
  have S9 := Lib.hid (rd_still S8.out hk)
  clear hk
  go_upto_region 8 with (first | (refine wpList_new rfl rfl 25 rfl (.tmp 11) (.tmp 39) rfl zCk (ccs ck0 A9 n9).toList rfl (fun _ => rfl) (fun _ => rfl) (ccs_one _ _ _) ?_; intro wa ga hga hba hka; have HKA := Lib.hid hka; clear hka hga hba) | fail)
  have KA := Lib.hid (K9.out.trans HKA.out)
  have HBA := Lib.hid (HB9.out.kp HKA.out (fun e => e))
  have HDA := Lib.hid (HD9.out.kp HKA.out (fun e => e))
  have HEA := Lib.hid (HE9.out.kp HKA.out (fun e => e))
  have RA := Lib.hid (rd_still R9.out HKA.out)
  have CA := Lib.hid (C9.out.still HKA.out)
  have SA := Lib.hid (rd_still S9.out HKA.out)
  have HF : Hid (∀ v, Kp (fun _ => False) wa v → v.cell? ⟨g1, 0, none⟩ = some (.int .u8 1) ∧ v.cell? ⟨g1, 1, none⟩ = some (.string ⟨#[97, 98]⟩) ∧ v.cell? ⟨g1, 2, none⟩ = some (.slice none 0 0) ∧ v.cell? ⟨g4, 0, none⟩ = some (.int .u8 1) ∧ v.cell? ⟨g4, 1, none⟩ = some (.string ⟨#[97, 98]⟩) ∧ v.cell? ⟨g4, 2, none⟩ = some (.slice A3 0 n3) ∧ v.cell? ⟨g5, 0, none⟩ = some (.int .u8 3) ∧ v.cell? ⟨g5, 1, none⟩ = some (.string ⟨#[]⟩) ∧ v.cell? ⟨g5, 2, none⟩ = some (.slice none 0 0)) := Lib.hid fun v hv =>
    ⟨(HBA.out.kp hv (fun h => h)).cell 0, (HBA.out.kp hv (fun h => h)).cell 1, (HBA.out.kp hv (fun h => h)).cell 2, (HDA.out.kp hv (fun h => h)).cell 0, (HDA.out.kp hv (fun h => h)).cell 1, (HDA.out.kp hv (fun h => h)).cell 2, (HEA.out.kp hv (fun h => h)).cell 0, (HEA.out.kp hv (fun h => h)).cell 1, (HEA.out.kp hv (fun h => h)).cell 2⟩
  have hcv := RA.out.text (P := Try.prog) 29 9 5 m2 Try.underlying29 Try.underlying5 Try.underlying9
  simp only [List.length_cons, List.length_nil, Nat.reduceAdd] at hcv
  obtain ⟨y0, y1, y2, z0, z1, z2, _, _, _⟩ := HF.out wa (Kp.refl _ _)
  have hst : ((⟨[1, 97, 98].toArray⟩ : ByteArray).toList == (⟨#[1, 97, 98]⟩ : ByteArray).toList) = true := beq_self_eq_true _
  go_wp2_with fail
  refine (same_any chA chA none A3 0 n3 _ (ck_lit chA_ok rfl) CA.out).mono ?_
  rintro e wb ⟨rfl, hk⟩
  rw [show decide (chA = chA) = true from by simp]
  have KB := Lib.hid (KA.out.trans hk)
  have HKB := Lib.hid hk
  have hcv2 := (rd_still SA.out hk).text (P := Try.prog) 29 9 5 m6 Try.underlying29 Try.underlying5 Try.underlying9
  simp only [List.length_cons, List.length_nil, Nat.reduceAdd] at hcv2
  clear hk hcv hst y0 y1 y2 z0 z1 z2
  obtain ⟨_, _, _, _, _, _, u0, u1, u2⟩ := HF.out wb HKB.out
  have hst : ((⟨[3, 0].toArray⟩ : ByteArray).toList == (⟨#[3, 0]⟩ : ByteArray).toList) = true := beq_self_eq_true _
  go_wp2_with fail
  refine (height_any chD none 0 _ (ck_lit chD_ok rfl)).mono ?_
  rintro e wc ⟨rfl, hk⟩
  rw [show heightN chD = 1 from rfl]
  have KC := Lib.hid (KB.out.trans hk)
  have HKC := Lib.hid (HKB.out.trans hk)
  clear hk hcv2 hst u0 u1 u2
  obtain ⟨y0, y1, y2, _, _, _, _, _, _⟩ := HF.out wc HKC.out
  go_wp2_with fail
  refine (height_any chA none 0 _ (ck_lit chA_ok rfl)).mono ?_
  rintro e wd ⟨rfl, hk⟩
  rw [show heightN chA = 0 from rfl]
  have KD := Lib.hid (KC.out.trans hk)
  have HKD := Lib.hid (HKC.out.trans hk)
  clear hk y0 y1 y2
  obtain ⟨y0, y1, y2, _, _, _, _, _, _⟩ := HF.out wd HKD.out
  go_wp2_with fail
  refine (size_any chA none 0 _ (ck_lit chA_ok rfl) (by decide) (by decide)).mono ?_
  rintro e we ⟨rfl, hk⟩
  rw [show sizeN chA = 2 from rfl]
  have KE := Lib.hid (KD.out.trans hk)
  clear hk y0 y1 y2
  go_wp2_with fail
  go_ret
  exact ⟨rfl, KE.out⟩
end Go.Proofs.Ytoonihhjdmkflaa
