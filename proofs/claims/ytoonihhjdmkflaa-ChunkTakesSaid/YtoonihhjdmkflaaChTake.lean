/- What Take answers: the chunk of bytes, or none. Condition: at most 2^47 bytes. -/
import Derived.Test.YtoonihhjdmkflaaChRead
namespace Go.Proofs.Ytoonihhjdmkflaa
open Go.RowKit

theorem put_any (c : Ck) (A : Option Addr) (n : Nat) (w : World) (h : CkR w c A n) :
    Calls Try.prog 11 #[.agg (ccs c A n)] w fun e w' => ∃ B m, e = .returned (.tuple #[.slice B (if mayB c = true then (putL c).length else 0) m, .int .i64 (if mayB c = true then 0 else 2)]) ∧ (mayB c = true → Rd w' B (putL c) ∧ ∀ a, B = some a → w.heap.size ≤ a.block) ∧ Kp (fun _ => False) w w' := by
  rcases hok : mayB c with _ | _
  · refine (put_no c A n w h hok).mono ?_
    rintro e w1 ⟨rfl, hk⟩
    exact ⟨none, 0, rfl, (fun h => by cases h), hk⟩
  · refine (put_yes c A n w h hok).mono ?_
    rintro e w1 ⟨B, m, rfl, _, _, h3, h4, hk⟩
    exact ⟨B, m, rfl, fun _ => ⟨h3, h4⟩, hk⟩
def TakeEnd (l : List UInt8) (w : World) (e : Ending) (w' : World) : Prop := ∃ A n, e = .returned (.tuple #[.agg (ccs (takeC l).1 A n), .int .i64 (takeC l).2]) ∧ CkR w' (takeC l).1 A n ∧ Kp (fun _ => False) w w'
set_option maxRecDepth 100000 in
set_option maxHeartbeats 8000000 in
theorem take_any (A : Option Addr) (n c : Nat) (l : List UInt8) (w : World) (hn : l.length = n) (hr : Rd w A l) (hlen : l.length ≤ 140737488355328) :
    Calls Try.prog 6 #[.slice A n c] w (TakeEnd l w) := by
  have Hr : Hid (Try.f6.results = #[.cell 2 25, .tmp 3]) := Lib.hid (by kernel_rfl)
  obtain ⟨W, hW, b2, k0⟩ : ∃ W, W = w.alloc (.cells (ccs ck0 none 0) 25) ∧ Box W w.heap.size 25 (ccs ck0 none 0) ∧ Kp (fun _ => False) w W := ⟨_, rfl, Box.new w _ _, (Kp.refl _ w).alloc _⟩
  have HW := Lib.hid hW
  have B2 := Lib.hid b2
  have K0 := Lib.hid k0
  have HR0 := Lib.hid hr
  have HR := Lib.hid (rd_still hr k0)
  have HN := Lib.hid hn
  have HLE := Lib.hid hlen
  by_cases hl : 340 < l.length
  · have HT : Hid (takeC l = (ck0, 3)) := Lib.hid (by unfold takeC; rw [if_pos hl])
    have hd : (340 : Int) < n := by omega
    clear hW b2 k0 hr hn hlen hl
    go_enter Try.func6, Try.ntmps6
    go_upto_region 1 with fail
    rw [zero_ck]
    rw [← HW.out]
    go_wp2_with (first | (refine nstore_box rfl 25 (.tmp 2) (.tmp 10) rfl w.heap.size [.int .u8 0, .string ⟨#[]⟩, .slice none 0 0] rfl rfl B2.out rfl (by kernel_rfl) (ccs_one ck0 none 0) ?_; intro w9 hb9 hk9; have HB9 := Lib.hid hb9; have HK9 := Lib.hid hk9; clear hb9 hk9) | fail)
    refine bodyPost_ret (v := .tuple #[.agg (ccs ck0 none 0), .int .i64 3]) ?_ rfl ?_
    · exact nresults_two Hr.out _ _ w.heap.size _ _ (0, 0) _ rfl HB9.out Try.underlying25 rfl (by kernel_rfl)
    · rw [TakeEnd, HT.out]
      exact ⟨none, 0, rfl, .zero _, K0.out.trans_new HK9.out (fun q e => .inl (by omega))⟩
  · have hd : ¬ (340 : Int) < n := by omega
    have HL := Lib.hid hl
    clear hW b2 k0 hr hn hlen hl
    go_enter Try.func6, Try.ntmps6
    go_upto_region 1 with fail
    rw [zero_ck]
    rw [← HW.out]
    go_wp2_with fail
    refine (of_any (fun k => W.heap.size ≤ k) W (fun k h => h) A n c l HN.out HR.out HLE.out).mono ?_
    rintro e wb ⟨b, rfl, hbs, ho, hk⟩
    have B3 := Lib.hid (B2.out.kp hk (fun e => e))
    have K3 := Lib.hid (K0.out.trans hk)
    have HBS : Hid (w.heap.size < b) := Lib.hid (by have := B2.out.lt; omega)
    have O3 : Hid (Oi 0 (fun _ => False) wb b (l, false)) := Lib.hid ⟨_, ho.old, fun k g => ⟨Nat.zero_le _, g.2, fun e => e⟩⟩
    clear hbs ho hk hd
    go_wp2_with fail
    refine (read_any l b wb O3.out (by have := HL.out; unfold maxLen; omega)).mono ?_
    rintro e w4 ⟨A4, n4, rfl, hck, hk⟩
    have C4 := Lib.hid hck
    have B4 := Lib.hid (B3.out.kp hk (fun e => by have := HBS.out; omega))
    have K4 : Hid (Kp (fun _ => False) w w4) := Lib.hid (K3.out.trans_new hk (fun q e => .inl (by have := HBS.out; omega)))
    clear hck hk
    go_upto_region 4 with (first | (refine wpList_new rfl rfl 25 rfl (.tmp 4) (.tmp 13) rfl zCk (ccs (readC l) A4 n4).toList rfl (fun _ => rfl) (fun _ => rfl) (ccs_one _ _ _) ?_; intro w5 g hg5 hb5 hk5; have HK5 := Lib.hid hk5; have HG5 := Lib.hid hg5; have HB5 := Lib.hid hb5; clear hk5 hg5 hb5) | fail)
    have C5 := Lib.hid (C4.out.still HK5.out)
    have B5 := Lib.hid (B4.out.kp HK5.out (fun e => e))
    have K5 := Lib.hid (K4.out.trans HK5.out)
    go_wp2_with (first | (refine wpList_load_mid rfl 25 (.tmp 4) rfl g 0 rfl (ccs (readC l) A4 n4).toList _ HB5.out.range' Try.underlying25 rfl (by kernel_rfl) ?_) | fail)
    refine (put_any (readC l) A4 n4 _ C5.out).mono ?_
    rintro e w6 ⟨B6, m6, rfl, hpg, hk⟩
    have HPG := Lib.hid hpg
    have C6 := Lib.hid (C5.out.still hk)
    have B6' := Lib.hid (B5.out.kp hk (fun e => e))
    have HB6 := Lib.hid (HB5.out.kp hk (fun e => e))
    have K6 := Lib.hid (K5.out.trans hk)
    have R6 := Lib.hid (rd_still HR0.out K6.out)
    have HG6 : Hid (w.heap.size < g) := Lib.hid (by have := HG5.out; have := B4.out.lt; omega)
    clear hpg hk
    rcases hok : mayB (readC l) with _ | _
    · have HT : Hid (takeC l = (ck0, 3)) := Lib.hid (by unfold takeC; rw [if_neg HL.out, hok]; rfl)
      clear hok
      simp only [Bool.false_eq_true, if_false]
      go_wp2_with (first | (refine nstore_box rfl 25 (.tmp 2) (.tmp 27) rfl w.heap.size [.int .u8 0, .string ⟨#[]⟩, .slice none 0 0] rfl rfl B6'.out rfl (by kernel_rfl) (ccs_one ck0 none 0) ?_; intro w9 hb9 hk9; have HB9 := Lib.hid hb9; have HK9 := Lib.hid hk9; clear hb9 hk9) | fail)
      refine bodyPost_ret (v := .tuple #[.agg (ccs ck0 none 0), .int .i64 3]) ?_ rfl ?_
      · exact nresults_two Hr.out _ _ w.heap.size _ _ (0, 0) _ rfl HB9.out Try.underlying25 rfl (by kernel_rfl)
      · rw [TakeEnd, HT.out]
        exact ⟨none, 0, rfl, .zero _, K6.out.trans_new HK9.out (fun q e => .inl (by omega))⟩
    · have HOK := Lib.hid hok
      clear hok
      simp only [if_true]
      go_wp2_with fail
      refine (nequal_any A B6 c m6 n _ l (putL (readC l)) _ HN.out rfl R6.out (HPG.out HOK.out).1).mono ?_
      rintro e w7 ⟨rfl, rfl⟩
      rcases heq : (l == putL (readC l)) with _ | _
      · have HT : Hid (takeC l = (ck0, 3)) := Lib.hid (by unfold takeC; rw [if_neg HL.out, HOK.out, heq]; rfl)
        clear heq
        go_wp2_with (first | (refine nstore_box rfl 25 (.tmp 2) (.tmp 27) rfl w.heap.size [.int .u8 0, .string ⟨#[]⟩, .slice none 0 0] rfl rfl B6'.out rfl (by kernel_rfl) (ccs_one ck0 none 0) ?_; intro w9 hb9 hk9; have HB9 := Lib.hid hb9; have HK9 := Lib.hid hk9; clear hb9 hk9) | fail)
        refine bodyPost_ret (v := .tuple #[.agg (ccs ck0 none 0), .int .i64 3]) ?_ rfl ?_
        · exact nresults_two Hr.out _ _ w.heap.size _ _ (0, 0) _ rfl HB9.out Try.underlying25 rfl (by kernel_rfl)
        · rw [TakeEnd, HT.out]
          exact ⟨none, 0, rfl, .zero _, K6.out.trans_new HK9.out (fun q e => .inl (by omega))⟩
      · have HT : Hid (takeC l = (readC l, 0)) := Lib.hid (by unfold takeC; rw [if_neg HL.out, HOK.out, heq]; rfl)
        clear heq
        go_wp2_with (first | (refine wpList_load_mid rfl 25 (.tmp 4) rfl g 0 rfl (ccs (readC l) A4 n4).toList _ HB6.out.range' Try.underlying25 rfl (by kernel_rfl) ?_) | (refine nstore_box rfl 25 (.tmp 2) (.tmp 28) rfl w.heap.size (ccs (readC l) A4 n4).toList rfl rfl B6'.out rfl (by kernel_rfl) (ccs_one _ _ _) ?_; intro w9 hb9 hk9; have HB9 := Lib.hid hb9; have HK9 := Lib.hid hk9; clear hb9 hk9) | fail)
        refine bodyPost_ret (v := .tuple #[.agg (ccs (readC l) A4 n4), .int .i64 0]) ?_ rfl ?_
        · exact nresults_two Hr.out _ _ w.heap.size _ _ (0, 0) _ rfl HB9.out Try.underlying25 rfl (by kernel_rfl)
        · rw [TakeEnd, HT.out]
          exact ⟨A4, n4, rfl, ⟨C6.out.k.far HK9.out B6'.out (ccs_no _ _ _), C6.out.ok, C6.out.le, C6.out.mx⟩, K6.out.trans_new HK9.out (fun q e => .inl (by omega))⟩
end Go.Proofs.Ytoonihhjdmkflaa
