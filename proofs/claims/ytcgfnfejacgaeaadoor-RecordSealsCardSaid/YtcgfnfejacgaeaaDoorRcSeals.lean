/- RecordSeals: a head's sector, or why there is none, and the head of any sector, are what the document says. Condition: the table of half bytes reads as the program's text lays it. -/
import Derived.Test.YtcgfnfejacgaeaaDoorRcWake
import Derived.Test.YtcgfnfejacgaeaaDoorRcRTake
import Derived.Lib.ConvBytes
namespace Go.Proofs.YtcgfnfejacgaeaaDoor
open Go.RowKit

theorem bytes_made (w : World) (l : List UInt8) : ∃ W c, (convert 9 23 (.string ⟨l.toArray⟩)).run Tryd.prog w = .ok (.slice (some ⟨w.heap.size, 0, none⟩) l.length c) W ∧ Rd W (some ⟨w.heap.size, 0, none⟩) l ∧ Kp (fun _ => False) w W := by
  have h := Lib.run_convert_string_bytes (P := Tryd.prog) w 9 23 5 ⟨l.toArray⟩ Tryd.underlying9 Tryd.underlying23 Tryd.underlying5
  rw [str_size] at h
  refine ⟨_, _, h, .inr ⟨_, 0, rfl, fun j u hu => ?_⟩, ?_⟩
  · have hj : j < l.length := (List.getElem?_eq_some_iff.1 hu).1
    rw [Nat.zero_add, Lib.bytesWorld_cell _ _ _ _ (by rw [str_size]; exact hj)]
    simp [List.getD, hu]
  · exact ⟨rfl, rfl, rfl, by rw [Lib.bytesWorld_size]; omega, fun k hk _ => Lib.bytesWorld_at_old _ _ _ _ hk⟩
theorem wpList_bytes {ops : Array Oper} {rest : List Oper} {o : Oper} {a : Act} {w : World} {Q : Exit → Act → World → Prop} (hgd : o.guard = none) (x : Operand) (ho : o.op = .convert 9 23 x) (l : List UInt8) (n : Nat) (hn : l.length = n) (hx : a.eval x = .string ⟨l.toArray⟩)
    (h : ∀ W g c, Rd W (some ⟨g, 0, none⟩) l → Kp (fun _ => False) w W → wpList Tryd.prog ops Q rest (a.put o.dst (.slice (some ⟨g, 0, none⟩) n c)) W) : wpList Tryd.prog ops Q (o :: rest) a w := by
  subst hn
  obtain ⟨W, c, h1, h2, h3⟩ := bytes_made w l
  refine wpList_plain hgd fun K hK => ?_
  unfold Oper.wp execOp
  simp only [ho, hx, Sem.run_bind, h1, Result.andThen_ok, Sem.run_pure]
  exact hK _ _ (h W _ c h2 h3)
set_option maxRecDepth 100000 in
set_option maxHeartbeats 8000000 in
theorem seals_list (z : Int) (l k : List UInt8) (n m : Nat) (w : World) (hl : l.length = n) (hk : k.length = m) (ht : Tbl w) :
    Calls Tryd.prog 3 #[.int .i64 z, .string ⟨l.toArray⟩, .string ⟨k.toArray⟩] w fun e w' => e = .returned (.bool true) ∧ Kp (fun _ => False) w w' := by
  have HT := Lib.hid ht
  have HL := Lib.hid hl
  have HKL := Lib.hid hk
  have hs1 : (⟨l.toArray⟩ : ByteArray).size = n := by rw [str_size]; exact hl
  have hs2 : (⟨k.toArray⟩ : ByteArray).size = m := by rw [str_size]; exact hk
  clear ht hl hk
  by_cases h1 : (3000 : Int) < n
  · go_enter Tryd.func3, Tryd.ntmps3
    go_wp2_with fail
    refine (wakes_true _ HT.out).mono ?_
    rintro e wz ⟨rfl, kw⟩
    have KW := Lib.hid kw
    clear kw
    go_wp2_with fail
    go_ret
    exact ⟨rfl, KW.out⟩
  · by_cases h2 : (3000 : Int) < m
    · go_enter Tryd.func3, Tryd.ntmps3
      go_wp2_with fail
      refine (wakes_true _ HT.out).mono ?_
      rintro e wz ⟨rfl, kw⟩
      have KW := Lib.hid kw
      clear kw
      go_wp2_with fail
      go_ret
      exact ⟨rfl, KW.out⟩
    · have hn3 : n ≤ 3000 := by omega
      have hm3 : m ≤ 3000 := by omega
      by_cases hok : 0 ≤ z ∧ z ≤ 65535 ∧ n ≤ 2048
      · obtain ⟨b, rfl⟩ := Int.eq_ofNat_of_zero_le hok.1
        have hb : b < 65536 := by omega
        have hn2 : n ≤ 2048 := hok.2.2
        have d1 : decide ((b : Int) < 0) = false := by simp
        have d2 : decide ((65535 : Int) < (b : Int)) = false := by simp; omega
        have d3 : decide ((2048 : Int) < (n : Int)) = false := by simp; omega
        clear hok
        go_enter Tryd.func3, Tryd.ntmps3
        go_wp2_with (first | (refine wpList_bytes rfl (.tmp 25) rfl l n HL.out rfl ?_; intro w1 g1 c1 hr1 hk1; have R1 := Lib.hid hr1; have K1 := Lib.hid hk1; clear hr1 hk1) | fail)
        refine (seal_fine b n c1 (some ⟨g1, 0, none⟩) l w1 hb HL.out hn2 R1.out (HT.out.still K1.out)).mono ?_
        rintro e w2 ⟨A2, c2, rfl, _, _, hr2, _, hk2⟩
        obtain ⟨cr, hcr⟩ : ∃ cr, cr = crcN l := ⟨_, rfl⟩
        have hcrl : cr < 4294967296 := by rw [hcr]; exact crcN_lt _
        rw [← hcr] at hr2
        have HOK : Hid ((⟨b, n, cr⟩ : Hd).Ok) := Lib.hid ⟨hb, by show n < 65536; omega, hcrl⟩
        have R2 := Lib.hid hr2
        have K2 := Lib.hid (K1.out.trans hk2)
        have HREF := Lib.hid (ref_any ⟨l.toArray⟩ w2 (by rw [hs1]; exact hn3))
        have HCR : Hid (((crcN (⟨l.toArray⟩ : ByteArray).data.toList : Nat) : Int) = (cr : Int)) := Lib.hid (by rw [hcr])
        rw [HCR.out] at HREF
        clear hr2 hk2 hcr hcrl
        go_wp2_with fail
        refine HREF.out.mono ?_
        rintro e w3 ⟨rfl, rfl⟩
        go_upto_region 8 with (first | (refine wpList_new rfl rfl 30 rfl (.tmp 9) (.tmp 53) rfl zRHead (hcs ⟨b, n, cr⟩) rfl (fun _ => rfl) (fun _ => rfl) (hcs_one _) ?_; intro w4 g4 hg4 hb4 hk4; have HB4 := Lib.hid hb4; have K24 := Lib.hid hk4; clear hg4 hb4 hk4) | fail)
        have K4 := Lib.hid (K2.out.trans K24.out)
        have HP : Hid (∀ v, Kp (fun _ => False) w4 v → Calls Tryd.prog 8 #[.agg (hcs ⟨b, n, cr⟩).toArray] v fun e v' => e = .returned (.string ⟨(secR ⟨b, n, cr⟩).toArray⟩) ∧ Kp (fun _ => False) v v') := Lib.hid fun v _ => rhput_any ⟨b, n, cr⟩ v HOK.out
        have HCV : Hid (∀ v, Kp (fun _ => False) w4 v → (convert 23 9 (.slice A2 512 c2)).run Tryd.prog v = .ok (.string ⟨(secR ⟨b, n, cr⟩).toArray⟩) v) := Lib.hid fun v hv => by
          have := (rd_still R2.out (K24.out.trans hv)).text (P := Tryd.prog) 23 9 5 c2 Tryd.underlying23 Tryd.underlying5 Tryd.underlying9
          rwa [secR_len] at this
        have HZR : Hid (∀ v, Kp (fun _ => False) w4 v → v.rangeAt g4 0 (hcs ⟨b, n, cr⟩)) := Lib.hid fun v hv => (HB4.out.kp hv (fun e => e)).range'
        obtain ⟨sx, hsx⟩ : ∃ sx : ByteArray, sx = ⟨(secR ⟨b, n, cr⟩).toArray⟩ := ⟨_, rfl⟩
        rw [← hsx] at HP HCV
        clear hsx d1 d2 d3
        refine wp_region_quiet (C := fun v => Kp (fun _ => False) w4 v) (by kernel_rfl) (by kernel_rfl) ((Kp.refl _ _).drew) (Wq.out ?_)
        refine qtk (h := ?_)
        refine qtk (hy := fun v hv => by (have hcv := HCV.out v hv; unfold Oper.quietAt; go_simp; with_reducible rfl)) (h := ?_)
        refine qld g4 0 (hcs ⟨b, n, cr⟩) (fun v hv => HZR.out v hv) Tryd.underlying30 (hi := info_rh) (h := ?_)
        refine qtk (hy := fun v hv => by (unfold Oper.quietAt; go_simp; exact (HP.out v hv).mono (fun e w1 h => ⟨h.1, hv.trans h.2⟩))) (h := ?_)
        refine qtk (h := ?_)
        refine qtk (h := ?_)
        refine qtk (h := ?_)
        refine qtk (h := ?_)
        refine qtk (h := ?_)
        refine Wq.mk (wpQuiet_nil ?_)
        intro wq hwq
        have KQ := Lib.hid hwq
        clear hwq
        have KX := Lib.hid (K4.out.trans KQ.out)
        obtain ⟨wx, hwx⟩ : ∃ v, v = wq := ⟨_, rfl⟩
        rw [← hwx] at KX ⊢
        clear hwx
        go_wp2_with (first | (refine wpList_bytes rfl (.tmp 64) rfl k m HKL.out rfl ?_; intro w5 g5 c5 hr5 hk5; have R5 := Lib.hid hr5; have K5 := Lib.hid (KX.out.trans hk5); clear hr5 hk5) | fail)
        refine (rtake_any (some ⟨g5, 0, none⟩) m c5 k w5 HKL.out R5.out (by rw [HKL.out]; omega) (HT.out.still K5.out)).mono ?_
        rintro e w6 ⟨he, hk6⟩
        obtain ⟨hh, hhe⟩ : ∃ hh, hh = (takeR k).1 := ⟨_, rfl⟩
        obtain ⟨er, here⟩ : ∃ er, er = (takeR k).2 := ⟨_, rfl⟩
        rw [← hhe, ← here] at he
        subst he
        have K6 := Lib.hid (K5.out.trans hk6)
        have HRT : Hid (∀ v, Calls Tryd.prog 10 #[.string ⟨k.toArray⟩] v fun e v' => e = .returned (.tuple #[.agg (hcs hh).toArray, .int .i64 er]) ∧ Kp (fun _ => False) v v') := Lib.hid fun v => by
          rw [hhe, here]
          exact ref_take k v (by rw [HKL.out]; exact hm3)
        clear hk6 hhe here
        go_wp2_with (first | (refine wpList_new rfl rfl 32 rfl (.tmp 10) (.tmp 67) rfl zHead (hcs hh) rfl (fun _ => rfl) (fun _ => rfl) (hcs_one _) ?_; intro w7 g7 hg7 hb7 hk7; have HB7 := Lib.hid hb7; have K7 := Lib.hid (K6.out.trans hk7); clear hg7 hb7 hk7) | fail)
        refine (HRT.out _).mono ?_
        rintro e w8 ⟨rfl, hk8⟩
        have K8 := Lib.hid (K7.out.trans hk8)
        have HB8 := Lib.hid (HB7.out.kp hk8 (fun e => e))
        clear hk8
        go_upto_region 12 with (first | (refine wpList_new rfl rfl 30 rfl (.tmp 12) (.tmp 72) rfl zRHead (hcs hh) rfl (fun _ => rfl) (fun _ => rfl) (hcs_one _) ?_; intro w9 g9 hg9 hb9 hk9; have HB9 := Lib.hid hb9; have HB89 := Lib.hid (HB8.out.kp hk9 (fun e => e)); have K9 := Lib.hid (K8.out.trans hk9); clear hg9 hb9 hk9) | fail)
        have HEQ := eq_head hh
        obtain ⟨hb3, hu3, hs3⟩ := hh
        have y0 : w9.cell? ⟨g9, 0, none⟩ = some (.int .i64 hb3) := HB9.out.cell 0
        have y1 : w9.cell? ⟨g9, 1, none⟩ = some (.int .i64 hu3) := HB9.out.cell 1
        have y2 : w9.cell? ⟨g9, 2, none⟩ = some (.int .u32 hs3) := HB9.out.cell 2
        go_wp2_with (first | (refine wpList_load_mid rfl 32 (.tmp 10) rfl g7 0 rfl (hcs ⟨hb3, hu3, hs3⟩) _ HB89.out.range' Tryd.underlying32 rfl info_head ?_) | (refine wpList_cmp rfl .eql 32 32 (.tmp 74) (.tmp 81) rfl (hcs ⟨hb3, hu3, hs3⟩).toArray (hcs ⟨hb3, hu3, hs3⟩).toArray (.bool true) rfl rfl (by kernel_rfl) HEQ ?_) | fail)
        refine (wakes_true _ (HT.out.still K9.out)).mono ?_
        rintro e wz ⟨rfl, kw⟩
        have KW := Lib.hid kw
        clear kw y0 y1 y2 HEQ
        go_wp2_with fail
        go_ret
        exact ⟨rfl, K9.out.trans KW.out⟩
      · have hno : z < 0 ∨ 65535 < z ∨ 2048 < n := by omega
        have HNO := Lib.hid hno
        have dd : (decide (z < 0) || (decide (65535 < z) || decide ((2048 : Int) < (n : Int)))) = true := by
          rcases hno with h | h | h
          · simp [h]
          · simp [h]
          · have : (2048 : Int) < (n : Int) := by omega
            simp [this]
        clear hok
        go_enter Tryd.func3, Tryd.ntmps3
        go_wp2_with (first | (refine wpList_bytes rfl (.tmp 25) rfl l n HL.out rfl ?_; intro w1 g1 c1 hr1 hk1; have K1 := Lib.hid hk1; clear hr1 hk1) | fail)
        refine (seal_no z n c1 (some ⟨g1, 0, none⟩) w1 HNO.out).mono ?_
        rintro e w2 ⟨rfl, rfl⟩
        have KX := K1
        obtain ⟨wx, hwx⟩ : ∃ v, v = w1 := ⟨_, rfl⟩
        rw [← hwx] at KX ⊢
        clear hwx
        by_cases hz0 : z < 0
        · clear hno
          go_wp2_with (first | (refine wpList_bytes rfl (.tmp 64) rfl k m HKL.out rfl ?_; intro w5 g5 c5 hr5 hk5; have R5 := Lib.hid hr5; have K5 := Lib.hid (KX.out.trans hk5); clear hr5 hk5) | fail)
          refine (rtake_any (some ⟨g5, 0, none⟩) m c5 k w5 HKL.out R5.out (by rw [HKL.out]; omega) (HT.out.still K5.out)).mono ?_
          rintro e w6 ⟨he, hk6⟩
          obtain ⟨hh, hhe⟩ : ∃ hh, hh = (takeR k).1 := ⟨_, rfl⟩
          obtain ⟨er, here⟩ : ∃ er, er = (takeR k).2 := ⟨_, rfl⟩
          rw [← hhe, ← here] at he
          subst he
          have K6 := Lib.hid (K5.out.trans hk6)
          have HRT : Hid (∀ v, Calls Tryd.prog 10 #[.string ⟨k.toArray⟩] v fun e v' => e = .returned (.tuple #[.agg (hcs hh).toArray, .int .i64 er]) ∧ Kp (fun _ => False) v v') := Lib.hid fun v => by
            rw [hhe, here]
            exact ref_take k v (by rw [HKL.out]; exact hm3)
          clear hk6 hhe here
          go_wp2_with (first | (refine wpList_new rfl rfl 32 rfl (.tmp 10) (.tmp 67) rfl zHead (hcs hh) rfl (fun _ => rfl) (fun _ => rfl) (hcs_one _) ?_; intro w7 g7 hg7 hb7 hk7; have HB7 := Lib.hid hb7; have K7 := Lib.hid (K6.out.trans hk7); clear hg7 hb7 hk7) | fail)
          refine (HRT.out _).mono ?_
          rintro e w8 ⟨rfl, hk8⟩
          have K8 := Lib.hid (K7.out.trans hk8)
          have HB8 := Lib.hid (HB7.out.kp hk8 (fun e => e))
          clear hk8
          go_upto_region 12 with (first | (refine wpList_new rfl rfl 30 rfl (.tmp 12) (.tmp 72) rfl zRHead (hcs hh) rfl (fun _ => rfl) (fun _ => rfl) (hcs_one _) ?_; intro w9 g9 hg9 hb9 hk9; have HB9 := Lib.hid hb9; have HB89 := Lib.hid (HB8.out.kp hk9 (fun e => e)); have K9 := Lib.hid (K8.out.trans hk9); clear hg9 hb9 hk9) | fail)
          have HEQ := eq_head hh
          obtain ⟨hb3, hu3, hs3⟩ := hh
          have y0 : w9.cell? ⟨g9, 0, none⟩ = some (.int .i64 hb3) := HB9.out.cell 0
          have y1 : w9.cell? ⟨g9, 1, none⟩ = some (.int .i64 hu3) := HB9.out.cell 1
          have y2 : w9.cell? ⟨g9, 2, none⟩ = some (.int .u32 hs3) := HB9.out.cell 2
          go_wp2_with (first | (refine wpList_load_mid rfl 32 (.tmp 10) rfl g7 0 rfl (hcs ⟨hb3, hu3, hs3⟩) _ HB89.out.range' Tryd.underlying32 rfl info_head ?_) | (refine wpList_cmp rfl .eql 32 32 (.tmp 74) (.tmp 81) rfl (hcs ⟨hb3, hu3, hs3⟩).toArray (hcs ⟨hb3, hu3, hs3⟩).toArray (.bool true) rfl rfl (by kernel_rfl) HEQ ?_) | fail)
          refine (wakes_true _ (HT.out.still K9.out)).mono ?_
          rintro e wz ⟨rfl, kw⟩
          have KW := Lib.hid kw
          clear kw y0 y1 y2 HEQ
          go_wp2_with fail
          go_ret
          exact ⟨rfl, K9.out.trans KW.out⟩
        · by_cases hz1 : 65535 < z
          · clear hno
            go_wp2_with (first | (refine wpList_bytes rfl (.tmp 64) rfl k m HKL.out rfl ?_; intro w5 g5 c5 hr5 hk5; have R5 := Lib.hid hr5; have K5 := Lib.hid (KX.out.trans hk5); clear hr5 hk5) | fail)
            refine (rtake_any (some ⟨g5, 0, none⟩) m c5 k w5 HKL.out R5.out (by rw [HKL.out]; omega) (HT.out.still K5.out)).mono ?_
            rintro e w6 ⟨he, hk6⟩
            obtain ⟨hh, hhe⟩ : ∃ hh, hh = (takeR k).1 := ⟨_, rfl⟩
            obtain ⟨er, here⟩ : ∃ er, er = (takeR k).2 := ⟨_, rfl⟩
            rw [← hhe, ← here] at he
            subst he
            have K6 := Lib.hid (K5.out.trans hk6)
            have HRT : Hid (∀ v, Calls Tryd.prog 10 #[.string ⟨k.toArray⟩] v fun e v' => e = .returned (.tuple #[.agg (hcs hh).toArray, .int .i64 er]) ∧ Kp (fun _ => False) v v') := Lib.hid fun v => by
              rw [hhe, here]
              exact ref_take k v (by rw [HKL.out]; exact hm3)
            clear hk6 hhe here
            go_wp2_with (first | (refine wpList_new rfl rfl 32 rfl (.tmp 10) (.tmp 67) rfl zHead (hcs hh) rfl (fun _ => rfl) (fun _ => rfl) (hcs_one _) ?_; intro w7 g7 hg7 hb7 hk7; have HB7 := Lib.hid hb7; have K7 := Lib.hid (K6.out.trans hk7); clear hg7 hb7 hk7) | fail)
            refine (HRT.out _).mono ?_
            rintro e w8 ⟨rfl, hk8⟩
            have K8 := Lib.hid (K7.out.trans hk8)
            have HB8 := Lib.hid (HB7.out.kp hk8 (fun e => e))
            clear hk8
            go_upto_region 12 with (first | (refine wpList_new rfl rfl 30 rfl (.tmp 12) (.tmp 72) rfl zRHead (hcs hh) rfl (fun _ => rfl) (fun _ => rfl) (hcs_one _) ?_; intro w9 g9 hg9 hb9 hk9; have HB9 := Lib.hid hb9; have HB89 := Lib.hid (HB8.out.kp hk9 (fun e => e)); have K9 := Lib.hid (K8.out.trans hk9); clear hg9 hb9 hk9) | fail)
            have HEQ := eq_head hh
            obtain ⟨hb3, hu3, hs3⟩ := hh
            have y0 : w9.cell? ⟨g9, 0, none⟩ = some (.int .i64 hb3) := HB9.out.cell 0
            have y1 : w9.cell? ⟨g9, 1, none⟩ = some (.int .i64 hu3) := HB9.out.cell 1
            have y2 : w9.cell? ⟨g9, 2, none⟩ = some (.int .u32 hs3) := HB9.out.cell 2
            go_wp2_with (first | (refine wpList_load_mid rfl 32 (.tmp 10) rfl g7 0 rfl (hcs ⟨hb3, hu3, hs3⟩) _ HB89.out.range' Tryd.underlying32 rfl info_head ?_) | (refine wpList_cmp rfl .eql 32 32 (.tmp 74) (.tmp 81) rfl (hcs ⟨hb3, hu3, hs3⟩).toArray (hcs ⟨hb3, hu3, hs3⟩).toArray (.bool true) rfl rfl (by kernel_rfl) HEQ ?_) | fail)
            refine (wakes_true _ (HT.out.still K9.out)).mono ?_
            rintro e wz ⟨rfl, kw⟩
            have KW := Lib.hid kw
            clear kw y0 y1 y2 HEQ
            go_wp2_with fail
            go_ret
            exact ⟨rfl, K9.out.trans KW.out⟩
          · have hz2 : (2048 : Int) < (n : Int) := by omega
            clear hno
            go_wp2_with (first | (refine wpList_bytes rfl (.tmp 64) rfl k m HKL.out rfl ?_; intro w5 g5 c5 hr5 hk5; have R5 := Lib.hid hr5; have K5 := Lib.hid (KX.out.trans hk5); clear hr5 hk5) | fail)
            refine (rtake_any (some ⟨g5, 0, none⟩) m c5 k w5 HKL.out R5.out (by rw [HKL.out]; omega) (HT.out.still K5.out)).mono ?_
            rintro e w6 ⟨he, hk6⟩
            obtain ⟨hh, hhe⟩ : ∃ hh, hh = (takeR k).1 := ⟨_, rfl⟩
            obtain ⟨er, here⟩ : ∃ er, er = (takeR k).2 := ⟨_, rfl⟩
            rw [← hhe, ← here] at he
            subst he
            have K6 := Lib.hid (K5.out.trans hk6)
            have HRT : Hid (∀ v, Calls Tryd.prog 10 #[.string ⟨k.toArray⟩] v fun e v' => e = .returned (.tuple #[.agg (hcs hh).toArray, .int .i64 er]) ∧ Kp (fun _ => False) v v') := Lib.hid fun v => by
              rw [hhe, here]
              exact ref_take k v (by rw [HKL.out]; exact hm3)
            clear hk6 hhe here
            go_wp2_with (first | (refine wpList_new rfl rfl 32 rfl (.tmp 10) (.tmp 67) rfl zHead (hcs hh) rfl (fun _ => rfl) (fun _ => rfl) (hcs_one _) ?_; intro w7 g7 hg7 hb7 hk7; have HB7 := Lib.hid hb7; have K7 := Lib.hid (K6.out.trans hk7); clear hg7 hb7 hk7) | fail)
            refine (HRT.out _).mono ?_
            rintro e w8 ⟨rfl, hk8⟩
            have K8 := Lib.hid (K7.out.trans hk8)
            have HB8 := Lib.hid (HB7.out.kp hk8 (fun e => e))
            clear hk8
            go_upto_region 12 with (first | (refine wpList_new rfl rfl 30 rfl (.tmp 12) (.tmp 72) rfl zRHead (hcs hh) rfl (fun _ => rfl) (fun _ => rfl) (hcs_one _) ?_; intro w9 g9 hg9 hb9 hk9; have HB9 := Lib.hid hb9; have HB89 := Lib.hid (HB8.out.kp hk9 (fun e => e)); have K9 := Lib.hid (K8.out.trans hk9); clear hg9 hb9 hk9) | fail)
            have HEQ := eq_head hh
            obtain ⟨hb3, hu3, hs3⟩ := hh
            have y0 : w9.cell? ⟨g9, 0, none⟩ = some (.int .i64 hb3) := HB9.out.cell 0
            have y1 : w9.cell? ⟨g9, 1, none⟩ = some (.int .i64 hu3) := HB9.out.cell 1
            have y2 : w9.cell? ⟨g9, 2, none⟩ = some (.int .u32 hs3) := HB9.out.cell 2
            go_wp2_with (first | (refine wpList_load_mid rfl 32 (.tmp 10) rfl g7 0 rfl (hcs ⟨hb3, hu3, hs3⟩) _ HB89.out.range' Tryd.underlying32 rfl info_head ?_) | (refine wpList_cmp rfl .eql 32 32 (.tmp 74) (.tmp 81) rfl (hcs ⟨hb3, hu3, hs3⟩).toArray (hcs ⟨hb3, hu3, hs3⟩).toArray (.bool true) rfl rfl (by kernel_rfl) HEQ ?_) | fail)
            refine (wakes_true _ (HT.out.still K9.out)).mono ?_
            rintro e wz ⟨rfl, kw⟩
            have KW := Lib.hid kw
            clear kw y0 y1 y2 HEQ
            go_wp2_with fail
            go_ret
            exact ⟨rfl, K9.out.trans KW.out⟩
theorem seals_any (z : Int) (t1 t2 : ByteArray) (w : World) (ht : Tbl w) :
    Calls Tryd.prog 3 #[.int .i64 z, .string t1, .string t2] w fun e w' => e = .returned (.bool true) ∧ Kp (fun _ => False) w w' := by
  have := seals_list z (byt t1) (byt t2) _ _ w rfl rfl ht
  rwa [mk_byt, mk_byt] at this
end Go.Proofs.YtcgfnfejacgaeaaDoor
