/- Records that are known. Condition: the table of half bytes reads as the program's text lays it. -/
import Derived.Test.YtcgfnfejacgaeaaDoorRcWalk
import Derived.Test.YtcgfnfejacgaeaaDoorRcSeal
import Derived.Test.YtcgfnfejacgaeaaDoorRcTake
import Derived.Test.YtcgfnfejacgaeaaDoorRcEq
import Derived.Test.YtcgfnfejacgaeaaDoorRcApp
import Derived.Deep.DeepMust
namespace Go.Proofs.YtcgfnfejacgaeaaDoor
open Go.RowKit

def tab2 : ByteArray := ⟨#[97, 98]⟩
def rA : Rc := ⟨h1 7, [97, 98]⟩
def rB : Rc := ⟨z32, []⟩
theorem rA_ok : rA.Ok := ⟨rfl, by decide⟩
theorem rB_ok : rB.Ok := ⟨rfl, by decide⟩
theorem rAL : (rcL rA).length = 36 := by rw [rcL_len rfl]; rfl
theorem rBL : (rcL rB).length = 34 := by rw [rcL_len rfl]; rfl
theorem rcs_two : rcsL [rA, rB] = rcL rA ++ rcL rB := by simp [rcsL]
theorem rA_tail : (rcL rA).drop 32 = [0, 2, 97, 98] := by decide
theorem zHead : ZeroN Tryd.prog 32 3 := by unfold ZeroN; kernel_rfl
theorem row_two : rowR [rA, rB] (List.finRange 2) = rcv 0 (h1 7) tab2 ++ rcv 36 z32 e0 := by
  have : List.finRange 2 = [⟨0, by decide⟩, ⟨1, by decide⟩] := rfl
  rw [rowR, this]
  have e1 : (rcsL (List.take 1 [rA, rB])).length = 36 := by
    have : List.take 1 [rA, rB] = [rA] := rfl
    rw [this, show rcsL [rA] = rcL rA by simp [rcsL], rAL]
  simp only [List.flatMap_cons, List.flatMap_nil, List.append_nil, recC]
  rw [e1]
  rfl
theorem rd_x (w : World) : Rd (w.alloc (.cells #[.int .u8 120] 5)) (some ⟨w.heap.size, 0, none⟩) [120] := .inr ⟨_, 0, rfl, fun j u hu => by
  rw [Nat.zero_add, (Box.new w 5 #[.int .u8 120]).cell]
  rcases j with _ | j
  · simp only [List.getElem?_cons_zero, Option.some.injEq] at hu
    rw [← hu]
    rfl
  · simp at hu⟩
theorem own_at {w : World} {base : Nat} {e : TypeId} {size n : Nat} {v : Value} {xs : List Value} (h : w.ownsRow base e size v n xs) (hn : 0 < n) : ∃ g c, v = .slice (some ⟨g, 0, none⟩) n c ∧ n ≤ c ∧ c ≤ maxLen ∧ ∀ i u, xs[i]? = some u → w.cell? ⟨g, i, none⟩ = some u := by
  rcases h.2 with ⟨_, h0⟩ | ⟨g, cap, cur, hv, hb, hg, hc, hm, _⟩
  · omega
  · subst hv
    exact ⟨g, cap, rfl, hc, hm, fun i u hu => by
      rw [h.cellAt i (by have := h.1; rw [← this]; exact (List.getElem?_eq_some_iff.1 hu).1)]
      exact hu⟩
set_option maxRecDepth 100000 in
set_option maxHeartbeats 16000000 in
theorem wakes_true (w : World) (ht : Tbl w) :
    Calls Tryd.prog 5 #[] w fun e w' => e = .returned (.bool true) ∧ Kp (fun _ => False) w w' := by
  have HT := Lib.hid ht
  clear ht
  go_enter Tryd.func5, Tryd.ntmps5
  go_upto_region 2 with (first | (refine wpList_build rfl 44 _ rfl (bcs (h1 7)).toArray (built_h1 7) ?_) | (refine wpList_new rfl rfl 44 rfl (.tmp 1) (.tmp 12) rfl zHash (bcs (h1 7)) (by rw [bcs_length]; rfl) (fun _ => rfl) (fun _ => rfl) (bcs_one _) ?_; intro w1 g1 hg1 hb1 hk1; have K1 := Lib.hid hk1; have HB1 := Lib.hid hb1; clear hk1 hg1 hb1) | fail)
  go_wp2_with (first | (refine wpList_load_mid rfl 44 (.tmp 1) rfl g1 0 rfl (bcs (h1 7)) _ HB1.out.range' Tryd.underlying44 rfl (by rw [bcs_length]; kernel_rfl) ?_) | fail)
  refine (rput_any (h1 7) tab2 w1 rfl (by decide)).mono ?_
  rintro e w2 ⟨A2, c2, he, h21, h22, hr, _, hk⟩
  obtain rfl : e = .returned (.tuple #[.slice A2 36 c2, .int .i64 0]) := he
  have R2 : Hid (Rd w2 A2 (rcL rA)) := Lib.hid hr
  have K2 := Lib.hid (K1.out.trans hk)
  have HB2 := Lib.hid (HB1.out.kp hk (fun e => e))
  have hc2 : 36 ≤ c2 := h21
  have HC2 := Lib.hid (And.intro hc2 h22)
  clear hr hk h21 h22 hc2
  go_wp2_with (first | (refine wpList_build rfl 44 _ rfl (bcs z32).toArray built_h0 ?_) | fail)
  refine (rput_any z32 e0 w2 rfl (by decide)).mono ?_
  rintro e w3 ⟨A3, c3, he, h31, h32, hr, _, hk⟩
  obtain rfl : e = .returned (.tuple #[.slice A3 34 c3, .int .i64 0]) := he
  have R3 : Hid (Rd w3 A3 (rcL rB)) := Lib.hid hr
  have K3 := Lib.hid (K2.out.trans hk)
  have HB3 := Lib.hid (HB2.out.kp hk (fun e => e))
  have R32 := Lib.hid (rd_still R2.out hk)
  clear hr hk h31 h32
  go_wp2_with (first | (at_builtin; refine wpList_app rfl (.const (.slice none 0 0)) (.tmp 24) rfl (.slice none 0 0) rfl [] (rcL rA) (Ow.nil w3) A2 36 c2 rfl rAL R32.out 36 rfl (by decide) ?_; intro A4 c4 w4 ho4 _ _ _; have O4 := Lib.hid ho4; clear ho4) | (at_builtin; refine wpList_app rfl (.tmp 25) (.tmp 26) rfl (.slice A4 36 c4) rfl (rcL rA) (rcL rB) O4.out A3 34 c3 rfl rBL (rd_still R3.out O4.out.kp) 70 (by rw [rAL]) (by decide) ?_; intro A5 c5 w5 ho5 _ _ _; have O5 := Lib.hid ho5; have RX := Lib.hid (rd_x w5); clear ho5) | (at_builtin; refine wpList_app rfl (.tmp 27) (.tmp 28) rfl (.slice A5 70 c5) rfl (rcL rA ++ rcL rB) [120] (O5.out.still ((Kp.refl _ _).alloc _)) (some ⟨w5.heap.size, 0, none⟩) 1 1 rfl rfl RX.out 71 (by rw [List.length_append, rAL, rBL]) (by decide) ?_; intro A6 c6 w6 ho6 h61 h62 _; have O6 := Lib.hid ho6; have H6 := Lib.hid (And.intro h61 h62); clear ho6 h61 h62) | fail)
  have hrd : Rd w6 A6 (rcsL [rA, rB]) := by
    have := O6.out.rd.take 70
    rwa [List.take_append_of_le_length (by rw [List.length_append, rAL, rBL]; decide), List.take_of_length_le (by rw [List.length_append, rAL, rBL]; decide), ← rcs_two] at this
  have hwk := walk_any [rA, rB] (by intro r hr; simp only [List.mem_cons, List.not_mem_nil, or_false] at hr; rcases hr with rfl | rfl; exact rA_ok; exact rB_ok) A6 70 71 c6 w6 (by rw [rcs_two, List.length_append, rAL, rBL]) (by decide) H6.out.1 H6.out.2 (by decide) hrd
  have HWK := Lib.hid hwk
  have K6 := Lib.hid (K3.out.trans O6.out.kp)
  have HB6 := Lib.hid (HB3.out.kp O6.out.kp (fun e => e))
  have R6 := Lib.hid (rd_still R32.out O6.out.kp)
  clear hwk hrd
  refine HWK.out.mono ?_
  rintro e w7 ⟨v7, rfl, hrow, hk⟩
  have hrow' : w7.ownsRow w6.heap.size 49 34 v7 2 (rcv 0 (h1 7) tab2 ++ rcv 36 z32 e0) := by rw [← row_two]; exact hrow
  obtain ⟨g7, c7, rfl, h71, h72, hcells⟩ := own_at hrow' (by decide)
  have CE := Lib.hid hcells
  have HC7 := Lib.hid (And.intro h71 h72)
  have K7 := Lib.hid (K6.out.trans hk)
  have HB7 := Lib.hid (HB6.out.kp hk (fun e => e))
  have R7 := Lib.hid (rd_still R6.out hk)
  have T7 := Lib.hid (HT.out.still K7.out)
  clear hrow hrow' hk hcells h71 h72
  go_wp2_with fail
  refine (seal_ok 3 36 c2 A2 (rcL rA) w7 (by decide) rAL (by decide) HC2.out.1 HC2.out.2 R7.out T7.out).mono ?_
  rintro e w8 ⟨A8, c8, rfl, h81, h82, hr, _, hk⟩
  obtain ⟨cr, hcr⟩ : ∃ cr, cr = crcN (rcL rA) := ⟨_, rfl⟩
  have hcrl : cr < 4294967296 := by rw [hcr]; exact crcN_lt _
  rw [← hcr] at hr
  have R8 := Lib.hid hr
  have K78 := Lib.hid hk
  have K8 := Lib.hid (K7.out.trans hk)
  have T8 := Lib.hid (HT.out.still K8.out)
  have HCR := Lib.hid hcrl
  clear hr hk h81 h82 hcr hcrl
  go_wp2_with fail
  refine (rtake_any A8 512 c8 (secR ⟨3, 36, cr⟩) w8 (secR_len _) R8.out (by rw [secR_len]; decide) T8.out).mono ?_
  rintro e w9 ⟨he, hk⟩
  rw [take_sec ⟨by show 3 < 65536; decide, by show 36 < 65536; decide, HCR.out⟩ (by show 36 ≤ 2048; decide)] at he
  obtain rfl : e = .returned (.tuple #[.agg (hcs ⟨3, 36, cr⟩).toArray, .int .i64 0]) := he
  have K79 := Lib.hid (K78.out.trans hk)
  have K9 := Lib.hid (K8.out.trans hk)
  clear hk
  go_upto_region 7 with (first | (refine wpList_new rfl rfl 32 rfl (.tmp 10) (.tmp 41) rfl zHead (hcs ⟨3, 36, cr⟩) rfl (fun _ => rfl) (fun _ => rfl) (hcs_one _) ?_; intro wa ga hga hba hka; have HBA := Lib.hid hba; have KA := Lib.hid hka; clear hga hba hka) | fail)
  have K7A := Lib.hid (K79.out.trans KA.out)
  have KE := Lib.hid (K9.out.trans KA.out)
  have HBE := Lib.hid (HB7.out.kp K7A.out (fun e => e))
  have CA : Hid (∀ v, Kp (fun _ => False) wa v → ∀ i u, (rcv 0 (h1 7) tab2 ++ rcv 36 z32 e0)[i]? = some u → v.cell? ⟨g7, i, none⟩ = some u) := Lib.hid fun v hv i u hu => by
    have h := CE.out i u hu
    exact ((K7A.out.trans hv).cell (p := ⟨g7, i, none⟩) (World.block_lt_of_cell? w7 ⟨g7, i, none⟩ h) (fun e => e)).trans h
  obtain ⟨b2, o2, hA2, hR2⟩ : ∃ b o, A2 = some ⟨b, o, none⟩ ∧ ∀ v, Kp (fun _ => False) wa v → Rd v (some ⟨b, o + 32, none⟩) [0, 2, 97, 98] := by
    rcases R7.out with h | ⟨b, o, rfl, hc⟩
    · exact absurd h (by decide)
    · refine ⟨b, o, rfl, fun v hv => .inr ⟨b, o + 32, rfl, fun j u hu => ?_⟩⟩
      rw [← rA_tail, List.getElem?_drop] at hu
      have h := hc (32 + j) u hu
      rw [← Nat.add_assoc] at h
      exact ((K7A.out.trans hv).cell (p := ⟨b, o + 32 + j, none⟩) (World.block_lt_of_cell? w7 ⟨b, o + 32 + j, none⟩ h) (fun e => e)).trans h
  have HR2 := Lib.hid hR2
  have hc36 : 36 ≤ c2 := HC2.out.1
  have HCV : Hid (∀ v, Kp (fun _ => False) wa v → (convert 23 9 (.slice (some ⟨b2, o2 + 32, none⟩) 4 (c2 - 32))).run Tryd.prog v = .ok (.string ⟨#[0, 2, 97, 98]⟩) v) := Lib.hid fun v hv => (hR2 v hv).text (P := Tryd.prog) 23 9 5 (c2 - 32) Tryd.underlying23 Tryd.underlying5 Tryd.underlying9
  have HZA : Hid (∀ v, Kp (fun _ => False) wa v → v.cell? ⟨ga, 0, none⟩ = some (.int .i64 3) ∧ v.cell? ⟨ga, 1, none⟩ = some (.int .i64 36)) := Lib.hid fun v hv => ⟨(HBA.out.kp hv (fun e => e)).cell 0, (HBA.out.kp hv (fun e => e)).cell 1⟩
  have H34 : Hid (∀ v, Kp (fun _ => False) wa v → v.cell? ⟨g7, 34, none⟩ = some (.int .i64 36)) := Lib.hid fun v hv => CA.out v hv 34 _ (by rw [List.getElem?_append_right (by rw [rcv_len rfl]; exact Nat.le_refl _), rcv_len rfl]; rfl)
  have HG7 : Hid (∀ v, Kp (fun _ => False) wa v → v.rangeAt g7 0 (rcv 0 (h1 7) tab2)) := Lib.hid fun v hv j u hu => by
    rw [Nat.zero_add]
    exact CA.out v hv j u (by rw [List.getElem?_append_left (List.getElem?_eq_some_iff.1 hu).1]; exact hu)
  subst hA2
  clear hR2
  have hne32 : (c2 = 32) = False := by simp; omega
  refine wp_region_quiet (C := fun v => Kp (fun _ => False) wa v) (by kernel_rfl) (by kernel_rfl) ((Kp.refl _ _).drew) (Wq.out ?_)
  refine qtk (h := ?_)
  refine qtk (h := ?_)
  refine qtk (h := ?_)
  refine qtk (h := ?_)
  refine qtk (h := ?_)
  refine qtk (h := ?_)
  refine qtk (h := ?_)
  refine qtk (h := ?_)
  refine qtk (h := ?_)
  refine qtk (h := ?_)
  refine qtk (hy := fun v hv => by (have hcv := HCV.out v hv; unfold Oper.quietAt; go_simp; with_reducible rfl)) (h := ?_)
  refine qtk (h := ?_)
  refine qtk (h := ?_)
  refine qtk (h := ?_)
  refine qtk (h := ?_)
  refine qtk (h := ?_)
  refine qtk (h := ?_)
  refine qtk (h := ?_)
  refine qtk (h := ?_)
  refine qtk (h := ?_)
  refine qtk (h := ?_)
  refine qtk (h := ?_)
  refine qtk (h := ?_)
  refine qtk (h := ?_)
  refine qtk (h := ?_)
  refine qtk (h := ?_)
  refine qtk (h := ?_)
  refine qtk (h := ?_)
  refine qtk (h := ?_)
  refine qld g7 0 (rcv 0 (h1 7) tab2) (fun v hv => HG7.out v hv) Tryd.underlying49 (hi := by rw [rcv_len rfl]; exact info_rec) (h := ?_)
  refine qld g1 0 (bcs (h1 7)) (fun v hv => (HBE.out.kp hv (fun e => e)).range') Tryd.underlying44 (hi := by rw [bcs_length]; kernel_rfl) (h := ?_)
  refine qbuild 49 _ rfl (rcv 0 (h1 7) tab2).toArray (built12 (h1 7) tab2 rfl) (h := ?_)
  refine qcmp .eql 49 _ _ _ rfl (rcv 0 (h1 7) tab2).toArray (rcv 0 (h1 7) tab2).toArray (.bool true) rfl rfl (by kernel_rfl) (eq_rec 0 (h1 7) tab2 rfl) (h := ?_)
  refine qtk (h := ?_)
  refine qtk (h := ?_)
  refine qtk (h := ?_)
  refine qtk (h := ?_)
  refine qtk (h := ?_)
  refine qtk (hy := fun v hv => by (have y := H34.out v hv; unfold Oper.quietAt; go_simp; with_reducible rfl)) (h := ?_)
  refine qtk (h := ?_)
  refine qtk (h := ?_)
  refine qtk (h := ?_)
  refine qtk (h := ?_)
  refine qtk (h := ?_)
  refine qtk (h := ?_)
  refine qtk (h := ?_)
  refine qtk (h := ?_)
  refine qtk (h := ?_)
  refine qtk (h := ?_)
  refine qtk (h := ?_)
  refine qtk (h := ?_)
  refine qtk (hy := fun v hv => by (obtain ⟨y0, y1⟩ := HZA.out v hv; unfold Oper.quietAt; go_simp; with_reducible rfl)) (h := ?_)
  refine qtk (h := ?_)
  refine qtk (h := ?_)
  refine qtk (h := ?_)
  refine qtk (h := ?_)
  refine qtk (hy := fun v hv => by (obtain ⟨y0, y1⟩ := HZA.out v hv; unfold Oper.quietAt; go_simp; with_reducible rfl)) (h := ?_)
  refine qtk (h := ?_)
  refine qtk (h := ?_)
  refine qtk (h := ?_)
  refine Wq.mk (wpQuiet_nil ?_)
  intro wz hwz
  have KZ := Lib.hid hwz
  clear hwz
  go_wp2_with fail
  go_ret
  exact ⟨rfl, KE.out.trans KZ.out⟩
end Go.Proofs.YtcgfnfejacgaeaaDoor
