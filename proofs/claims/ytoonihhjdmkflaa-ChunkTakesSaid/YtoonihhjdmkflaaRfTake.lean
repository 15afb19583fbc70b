/- What the document's own reader of a chunk answers. Condition: at most 600 bytes. -/
import Derived.Test.YtoonihhjdmkflaaRfGrow
import Derived.Test.YtoonihhjdmkflaaRfMay
import Derived.Test.YtoonihhjdmkflaaRfPut
import Derived.Test.YtoonihhjdmkflaaChTake
namespace Go.Proofs.Ytoonihhjdmkflaa
open Go.RowKit

theorem rd_by {kind : Nat} {st s5 : List UInt8 × Bool} {kd1 : Kd} (h : rdHd kind st = ((kd1.name, kd1.dir), s5)) (hh : kd1.hash = List.replicate 32 0) :
    rdKd' kind st = (⟨kd1.name, kd1.dir, if (gv 32 s5).1.length = 32 then (gv 32 s5).1 else kd1.hash, numN (gv 1 (gv 32 s5).2).1, numN (gv 4 (gv 1 (gv 32 s5).2).2).1⟩, (gv 4 (gv 1 (gv 32 s5).2).2).2) := by
  unfold rdKd' rdTl gh
  rw [h, hh]
theorem rf_next (kind n : Nat) (s : List UInt8 × Bool) : (rdKs kind (n + 1) s).1 = (rdKs kind n s).1 ++ [(rdKd' kind (rdKs kind n s).2).1] ∧ (rdKs kind (n + 1) s).2 = (rdKd' kind (rdKs kind n s).2).2 := ⟨rfl, rfl⟩
set_option maxRecDepth 100000 in
set_option maxHeartbeats 8000000 in
theorem rtake_any (l : List UInt8) (w : World) (hlen : l.length ≤ 600) :
    Calls Try.prog 7 #[.string ⟨l.toArray⟩] w (TakeEnd l w) := by
  have Hr : Hid (Try.f7.results = #[.cell 2 32, .tmp 3]) := Lib.hid (by kernel_rfl)
  obtain ⟨W, hW, b2, k0⟩ : ∃ W, W = w.alloc (.cells (ccs ck0 none 0) 32) ∧ Box W w.heap.size 32 (ccs ck0 none 0) ∧ Kp (fun _ => False) w W := ⟨_, rfl, Box.new w _ _, (Kp.refl _ w).alloc _⟩
  have HW := Lib.hid hW
  have B2 := Lib.hid b2
  have K0 := Lib.hid k0
  clear hW b2 k0
  rcases l with _ | ⟨x, r⟩
  · have HT : Hid (takeC [] = (ck0, 3)) := Lib.hid (ref_no [] (.inr rfl))
    have hsz : (⟨([] : List UInt8).toArray⟩ : ByteArray).size = 0 := rfl
    go_enter Try.func7, Try.ntmps7
    go_upto_region 1 with fail
    rw [zero_ck]
    rw [← HW.out]
    go_wp2_with (first | (refine nstore_box rfl 32 (.tmp 2) (.tmp 22) rfl w.heap.size [.int .u8 0, .string ⟨#[]⟩, .slice none 0 0] rfl rfl B2.out rfl (by kernel_rfl) (ccs_one ck0 none 0) ?_; intro w9 hb9 hk9; have HB9 := Lib.hid hb9; have HK9 := Lib.hid hk9; clear hb9 hk9) | fail)
    refine bodyPost_ret (v := .tuple #[.agg (ccs ck0 none 0), .int .i64 3]) ?_ rfl ?_
    · exact nresults_two Hr.out _ _ w.heap.size _ _ (0, 0) _ rfl HB9.out Try.underlying32 rfl (by kernel_rfl)
    · rw [TakeEnd, HT.out]
      exact ⟨none, 0, rfl, .zero _, K0.out.trans_new HK9.out (fun q e => .inl (by omega))⟩
  · have HLE := Lib.hid hlen
    obtain ⟨n, hn⟩ : ∃ n, n = r.length + 1 := ⟨_, rfl⟩
    have hsz : (⟨(x :: r).toArray⟩ : ByteArray).size = n := by rw [rsize, hn]; rfl
    have hn0 : ((n : Int) == 0) = false := by simp; omega
    have hn1 : 0 < n := by omega
    have h1n : 1 ≤ n := by omega
    have hidx : (⟨(x :: r).toArray⟩ : ByteArray)[0]'(by rw [hsz]; exact hn1) = x := rfl
    have he : (⟨(x :: r).toArray⟩ : ByteArray).extract 1 n = ⟨r.toArray⟩ := by rw [rext_from _ _ _ (by rw [hn]; rfl)]; rfl
    obtain ⟨kind, hkd⟩ : ∃ kind, kind = x.toNat := ⟨_, rfl⟩
    have hkx : x.toNat = kind := hkd.symm
    have hk8 : kind < 256 := by rw [hkd]; exact x.toNat_lt
    have HK8 := Lib.hid hk8
    have HKD := Lib.hid hkd
    have HRL : Hid (r.length ≤ 600) := Lib.hid (by simp at hlen; omega)
    clear hkd hk8 hlen hn
    by_cases h1 : kind = 1
    · have HK1 := Lib.hid h1
      have d1 : ((kind : Int) == 1) = true := by simp; omega
      have d1n : ((kind : Int) != 1) = false := by simp; omega
      clear h1
      go_enter Try.func7, Try.ntmps7
      go_upto_region 1 with fail
      rw [zero_ck]
      rw [← HW.out]
      go_upto_region 4 with (first | (refine wpList_new rfl rfl 32 rfl (.tmp 4) (.tmp 25) rfl zRCk [.int .u8 kind, .string ⟨#[]⟩, .slice none 0 0] rfl (fun _ => rfl) (fun _ => rfl) (ccs_one ⟨kind, ⟨#[]⟩, []⟩ none 0) ?_; intro w3 g hg3 hb3 hk3; have HK3 := Lib.hid hk3; have HG3 := Lib.hid hg3; have HB3 := Lib.hid hb3; clear hk3 hg3 hb3) | fail)
      have y0 : w3.cell? ⟨g, 0, none⟩ = some (.int .u8 kind) := HB3.out.cell 0
      have y1 : w3.cell? ⟨g, 1, none⟩ = some (.string ⟨#[]⟩) := HB3.out.cell 1
      have yf : w3.frozen? ⟨g, 1, none⟩ = false := HB3.out.free 1
      go_upto_region 6 with fail
      obtain ⟨w4, hw4⟩ : ∃ w4, w4 = w3.setCell ⟨g, 1, none⟩ (.string ⟨r.toArray⟩) := ⟨_, rfl⟩
      have HKX : Hid (Kp (fun k => k = g) w3 w4) := Lib.hid (by rw [hw4]; exact Kp.one _ _ _ _)
      have HBX : Hid (Box w4 g 32 #[.int .u8 kind, .string ⟨r.toArray⟩, .slice none 0 0]) := Lib.hid (by rw [hw4]; simpa using HB3.out.put 1 (.string ⟨r.toArray⟩))
      have C4 : Hid (Cg 32 58 (w.heap.size + 1) w4 g kind ⟨r.toArray⟩ (.slice none 0 0) []) := Lib.hid (Cg.new _ _ (by decide) HBX.out (by have := HG3.out; have := B2.out.lt; omega))
      have B24 : Hid (Box w4 w.heap.size 32 (ccs ck0 none 0)) := Lib.hid ((B2.out.kp HK3.out (fun e => e)).kp HKX.out (by have := C4.out.nb; omega))
      have K4 : Hid (Kp (fun _ => False) w w4) := Lib.hid ((K0.out.trans HK3.out).trans_new HKX.out (fun q e => .inl (by have := C4.out.nb; omega)))
      rw [← hw4]
      clear hw4 y1 yf
      clear y0 d1
      go_upto_region 7 with (first | (refine wpList_new rfl rfl 55 rfl (.tmp 5) (.tmp 34) rfl zOp (ocs (r, false)).toList rfl (fun _ => rfl) (fun _ => rfl) (ocs_one (r, false)) ?_; intro w5 g5 hg5 hb5 hk5; have HK5 := Lib.hid hk5; have HG5 := Lib.hid hg5; have HB5 := Lib.hid hb5; clear hk5 hg5 hb5) | fail)
      have U5 : Hid (Ru w w5 g g5 kind ⟨r.toArray⟩ (.slice none 0 0) [] (r, false)) := Lib.hid ⟨(C4.out.still HK5.out), HB5.out, (B24.out.kp HK5.out (fun e => e)), K4.out.trans HK5.out, HRL.out, by have := HG5.out; have := B24.out.lt; omega⟩
      clear HK5 HG5 HB5 hsz hn0 hn1 h1n hidx he
      go_upto_region 8 with (first | (refine wpList_load_mid rfl 55 (.tmp 5) rfl g5 0 rfl (ocs (r, false)).toList _ U5.out.o.range' Try.underlying55 rfl (by kernel_rfl) ?_) | fail)
      refine (rtake1 (r, false) _ (by have := HRL.out; dsimp only; omega)).mono ?_
      rintro e w6 ⟨rfl, k6⟩
      have U6 := Lib.hid (U5.out.still k6)
      clear k6
      obtain ⟨cnt, hcnt⟩ : ∃ cnt, cnt = rfN r := ⟨_, rfl⟩
      obtain ⟨s2, hs2⟩ : ∃ s2, s2 = rfS r := ⟨_, rfl⟩
      rw [show numN (gv 1 (r, false)).1 = cnt from hcnt.symm, show (gv 1 (r, false)).2 = s2 from hs2.symm]
      have hc8 : cnt < 256 := by rw [hcnt]; exact rfN_lt r
      have HL2 : Hid (s2.1.length ≤ 600) := Lib.hid (by rw [hs2]; exact Nat.le_trans (gv_left _ _) HRL.out)
      have HCNT := Lib.hid hcnt
      have HS2 := Lib.hid hs2
      clear hcnt hs2
      go_upto_region 8 with (first | (refine nstore_box rfl 55 (.tmp 5) (.tmp 39) rfl g5 (ocs s2).toList rfl rfl U6.out.o rfl (by kernel_rfl) (ocs_one s2) ?_; intro w7 hb7 hk7; have U7 := Lib.hid (U6.out.setOp hb7 hk7 HL2.out); clear hb7 hk7) | fail)
      go_wp2_with fail
      go_loopw [7] (fun s7 wr => s7 = .int .u64 0 ∧ Ru w wr g g5 kind ⟨r.toArray⟩ (.slice none 0 0) [] s2) (fun _ _ => 0)
      case atStart => exact ⟨rfl, U7.out⟩
      case round =>
        obtain ⟨rfl, hu⟩ := hrel
        have UR := Lib.hid hu
        clear hu
        by_cases h0 : cnt = 0
        · have hd0 : ¬ (0 : Int) < (cnt : Int) := by omega
          obtain ⟨A4, n4, hcs, hck⟩ := UR.out.c.chunk HK8.out
          have HRC : Hid (rfC (x :: r) = ⟨kind, ⟨r.toArray⟩, []⟩) := Lib.hid (by rw [rfC_cons, if_pos (HKD.out.symm.trans HK1.out), HK1.out])
          have HCK := Lib.hid hck
          have HBR := Lib.hid (hcs ▸ UR.out.c.box)
          rw [← HRC.out] at HCK HBR
          clear hcs hck
          have h1000 : (rfC (x :: r)).kids.length ≤ 1000 := by rw [HRC.out]; simp
          have H1000 := Lib.hid h1000
          clear h1000
          
          go_upto_region 26 with fail
          obtain ⟨c, hc⟩ : ∃ c, c = rfC (x :: r) := ⟨_, rfl⟩
          rw [← hc] at HRC HCK HBR H1000
          have HC := Lib.hid hc
          clear hc
          go_wp2_with (first | (refine wpList_load_mid rfl 32 (.tmp 4) rfl g 0 rfl (ccs c A4 n4).toList _ HBR.out.range' Try.underlying32 rfl (by kernel_rfl) ?_) | fail)
          refine (rmay_any c A4 n4 _ HCK.out H1000.out).mono ?_
          rintro e w8 ⟨rfl, k8⟩
          have HC8 := Lib.hid (HCK.out.still k8)
          have HB8 := Lib.hid (HBR.out.kp k8 (fun e => e))
          have U8 := Lib.hid (UR.out.still k8)
          clear k8
          rcases hm : mayB c with _ | _
          · have HT : Hid (takeC (x :: r) = (ck0, 3)) := Lib.hid (ref_no _ (.inl (HC.out ▸ hm)))
            clear hm
            go_wp2_with (first | (refine nstore_box rfl 32 (.tmp 2) (.tmp 110) rfl w.heap.size [.int .u8 0, .string ⟨#[]⟩, .slice none 0 0] rfl rfl U8.out.r rfl (by kernel_rfl) (ccs_one ck0 none 0) ?_; intro w9 hb9 hk9; have HB9 := Lib.hid hb9; have HK9 := Lib.hid hk9; clear hb9 hk9) | fail)
            refine bodyPost_ret (v := .tuple #[.agg (ccs ck0 none 0), .int .i64 3]) ?_ rfl ?_
            · exact nresults_two Hr.out _ _ w.heap.size _ _ (0, 0) _ rfl HB9.out Try.underlying32 rfl (by kernel_rfl)
            · rw [TakeEnd, HT.out]
              exact ⟨none, 0, rfl, .zero _, U8.out.kp.trans_new HK9.out (fun q e => .inl (by omega))⟩
          · have HM := Lib.hid hm
            clear hm
            have y0 : w8.cell? ⟨g, 0, none⟩ = some (.int .u8 c.kind) := HB8.out.cell 0
            have y1 : w8.cell? ⟨g, 1, none⟩ = some (.string c.data) := HB8.out.cell 1
            have y2 : w8.cell? ⟨g, 2, none⟩ = some (.slice A4 c.kids.length n4) := HB8.out.cell 2
            go_wp2_with fail
            refine (rput_any c A4 n4 _ HC8.out HM.out).mono ?_
            rintro e w9 ⟨rfl, k9⟩
            have HC9 := Lib.hid (HC8.out.still k9)
            have HB10 := Lib.hid (HB8.out.kp k9 (fun e => e))
            have U9 := Lib.hid (U8.out.still k9)
            clear k9 y0 y1 y2
            by_cases heq : putL c = x :: r
            · have HT : Hid (takeC (x :: r) = (c, 0)) := Lib.hid (by rw [HC.out]; exact ref_yes _ (HC.out ▸ HM.out) (HC.out ▸ heq))
              rw [heq]
              clear heq
              go_wp2_with (first | (refine wpList_load_mid rfl 32 (.tmp 4) rfl g 0 rfl (ccs c A4 n4).toList _ HB10.out.range' Try.underlying32 rfl (by kernel_rfl) ?_) | (refine nstore_box rfl 32 (.tmp 2) (.tmp 111) rfl w.heap.size (ccs c A4 n4).toList rfl rfl U9.out.r rfl (by kernel_rfl) (ccs_one _ _ _) ?_; intro w9 hb9 hk9; have HB9 := Lib.hid hb9; have HK9 := Lib.hid hk9; clear hb9 hk9) | fail)
              refine bodyPost_ret (v := .tuple #[.agg (ccs c A4 n4), .int .i64 0]) ?_ rfl ?_
              · exact nresults_two Hr.out _ _ w.heap.size _ _ (0, 0) _ rfl HB9.out Try.underlying32 rfl (by kernel_rfl)
              · rw [TakeEnd, HT.out]
                exact ⟨A4, n4, rfl, ⟨HC9.out.k.far HK9.out U9.out.r (ccs_no _ _ _), HC9.out.ok, HC9.out.le, HC9.out.mx⟩, U9.out.kp.trans_new HK9.out (fun q e => .inl (by omega))⟩
            · have HT : Hid (takeC (x :: r) = (ck0, 3)) := Lib.hid (ref_dif _ (HC.out ▸ HM.out) (HC.out ▸ heq))
              have hne : (putL c == x :: r) = false := by rw [beq_eq_false_iff_ne]; exact heq
              clear heq
              go_wp2_with (first | (refine nstore_box rfl 32 (.tmp 2) (.tmp 110) rfl w.heap.size [.int .u8 0, .string ⟨#[]⟩, .slice none 0 0] rfl rfl U9.out.r rfl (by kernel_rfl) (ccs_one ck0 none 0) ?_; intro w9 hb9 hk9; have HB9 := Lib.hid hb9; have HK9 := Lib.hid hk9; clear hb9 hk9) | fail)
              refine bodyPost_ret (v := .tuple #[.agg (ccs ck0 none 0), .int .i64 3]) ?_ rfl ?_
              · exact nresults_two Hr.out _ _ w.heap.size _ _ (0, 0) _ rfl HB9.out Try.underlying32 rfl (by kernel_rfl)
              · rw [TakeEnd, HT.out]
                exact ⟨none, 0, rfl, .zero _, U9.out.kp.trans_new HK9.out (fun q e => .inl (by omega))⟩
        · have hd0 : (0 : Int) < (cnt : Int) := by omega
          obtain ⟨A4, n4, hcs, hck⟩ := UR.out.c.chunk HK8.out
          have HRC : Hid (rfC (x :: r) = ⟨kind, ⟨r.toArray⟩, []⟩) := Lib.hid (by rw [rfC_cons, if_pos (HKD.out.symm.trans HK1.out), HK1.out])
          have HCK := Lib.hid hck
          have HBR := Lib.hid (hcs ▸ UR.out.c.box)
          rw [← HRC.out] at HCK HBR
          clear hcs hck
          have h1000 : (rfC (x :: r)).kids.length ≤ 1000 := by rw [HRC.out]; simp
          have H1000 := Lib.hid h1000
          clear h1000
          have y0 : wr.cell? ⟨g, 0, none⟩ = some (.int .u8 kind) := UR.out.c.box.cell 0
          go_upto_region 26 with fail
          obtain ⟨c, hc⟩ : ∃ c, c = rfC (x :: r) := ⟨_, rfl⟩
          rw [← hc] at HRC HCK HBR H1000
          have HC := Lib.hid hc
          clear hc
          go_wp2_with (first | (refine wpList_load_mid rfl 32 (.tmp 4) rfl g 0 rfl (ccs c A4 n4).toList _ HBR.out.range' Try.underlying32 rfl (by kernel_rfl) ?_) | fail)
          refine (rmay_any c A4 n4 _ HCK.out H1000.out).mono ?_
          rintro e w8 ⟨rfl, k8⟩
          have HC8 := Lib.hid (HCK.out.still k8)
          have HB8 := Lib.hid (HBR.out.kp k8 (fun e => e))
          have U8 := Lib.hid (UR.out.still k8)
          clear k8
          rcases hm : mayB c with _ | _
          · have HT : Hid (takeC (x :: r) = (ck0, 3)) := Lib.hid (ref_no _ (.inl (HC.out ▸ hm)))
            clear hm
            go_wp2_with (first | (refine nstore_box rfl 32 (.tmp 2) (.tmp 110) rfl w.heap.size [.int .u8 0, .string ⟨#[]⟩, .slice none 0 0] rfl rfl U8.out.r rfl (by kernel_rfl) (ccs_one ck0 none 0) ?_; intro w9 hb9 hk9; have HB9 := Lib.hid hb9; have HK9 := Lib.hid hk9; clear hb9 hk9) | fail)
            refine bodyPost_ret (v := .tuple #[.agg (ccs ck0 none 0), .int .i64 3]) ?_ rfl ?_
            · exact nresults_two Hr.out _ _ w.heap.size _ _ (0, 0) _ rfl HB9.out Try.underlying32 rfl (by kernel_rfl)
            · rw [TakeEnd, HT.out]
              exact ⟨none, 0, rfl, .zero _, U8.out.kp.trans_new HK9.out (fun q e => .inl (by omega))⟩
          · have HM := Lib.hid hm
            clear hm
            have y0 : w8.cell? ⟨g, 0, none⟩ = some (.int .u8 c.kind) := HB8.out.cell 0
            have y1 : w8.cell? ⟨g, 1, none⟩ = some (.string c.data) := HB8.out.cell 1
            have y2 : w8.cell? ⟨g, 2, none⟩ = some (.slice A4 c.kids.length n4) := HB8.out.cell 2
            go_wp2_with fail
            refine (rput_any c A4 n4 _ HC8.out HM.out).mono ?_
            rintro e w9 ⟨rfl, k9⟩
            have HC9 := Lib.hid (HC8.out.still k9)
            have HB10 := Lib.hid (HB8.out.kp k9 (fun e => e))
            have U9 := Lib.hid (U8.out.still k9)
            clear k9 y0 y1 y2
            by_cases heq : putL c = x :: r
            · have HT : Hid (takeC (x :: r) = (c, 0)) := Lib.hid (by rw [HC.out]; exact ref_yes _ (HC.out ▸ HM.out) (HC.out ▸ heq))
              rw [heq]
              clear heq
              go_wp2_with (first | (refine wpList_load_mid rfl 32 (.tmp 4) rfl g 0 rfl (ccs c A4 n4).toList _ HB10.out.range' Try.underlying32 rfl (by kernel_rfl) ?_) | (refine nstore_box rfl 32 (.tmp 2) (.tmp 111) rfl w.heap.size (ccs c A4 n4).toList rfl rfl U9.out.r rfl (by kernel_rfl) (ccs_one _ _ _) ?_; intro w9 hb9 hk9; have HB9 := Lib.hid hb9; have HK9 := Lib.hid hk9; clear hb9 hk9) | fail)
              refine bodyPost_ret (v := .tuple #[.agg (ccs c A4 n4), .int .i64 0]) ?_ rfl ?_
              · exact nresults_two Hr.out _ _ w.heap.size _ _ (0, 0) _ rfl HB9.out Try.underlying32 rfl (by kernel_rfl)
              · rw [TakeEnd, HT.out]
                exact ⟨A4, n4, rfl, ⟨HC9.out.k.far HK9.out U9.out.r (ccs_no _ _ _), HC9.out.ok, HC9.out.le, HC9.out.mx⟩, U9.out.kp.trans_new HK9.out (fun q e => .inl (by omega))⟩
            · have HT : Hid (takeC (x :: r) = (ck0, 3)) := Lib.hid (ref_dif _ (HC.out ▸ HM.out) (HC.out ▸ heq))
              have hne : (putL c == x :: r) = false := by rw [beq_eq_false_iff_ne]; exact heq
              clear heq
              go_wp2_with (first | (refine nstore_box rfl 32 (.tmp 2) (.tmp 110) rfl w.heap.size [.int .u8 0, .string ⟨#[]⟩, .slice none 0 0] rfl rfl U9.out.r rfl (by kernel_rfl) (ccs_one ck0 none 0) ?_; intro w9 hb9 hk9; have HB9 := Lib.hid hb9; have HK9 := Lib.hid hk9; clear hb9 hk9) | fail)
              refine bodyPost_ret (v := .tuple #[.agg (ccs ck0 none 0), .int .i64 3]) ?_ rfl ?_
              · exact nresults_two Hr.out _ _ w.heap.size _ _ (0, 0) _ rfl HB9.out Try.underlying32 rfl (by kernel_rfl)
              · rw [TakeEnd, HT.out]
                exact ⟨none, 0, rfl, .zero _, U9.out.kp.trans_new HK9.out (fun q e => .inl (by omega))⟩
    · have HK1 := Lib.hid h1
      have d1 : ((kind : Int) == 1) = false := by simp; omega
      have d1n : ((kind : Int) != 1) = true := by simp; omega
      clear h1
      go_enter Try.func7, Try.ntmps7
      go_upto_region 1 with fail
      rw [zero_ck]
      rw [← HW.out]
      go_upto_region 4 with (first | (refine wpList_new rfl rfl 32 rfl (.tmp 4) (.tmp 25) rfl zRCk [.int .u8 kind, .string ⟨#[]⟩, .slice none 0 0] rfl (fun _ => rfl) (fun _ => rfl) (ccs_one ⟨kind, ⟨#[]⟩, []⟩ none 0) ?_; intro w3 g hg3 hb3 hk3; have HK3 := Lib.hid hk3; have HG3 := Lib.hid hg3; have HB3 := Lib.hid hb3; clear hk3 hg3 hb3) | fail)
      have y0 : w3.cell? ⟨g, 0, none⟩ = some (.int .u8 kind) := HB3.out.cell 0
      have C4 : Hid (Cg 32 58 (w.heap.size + 1) w3 g kind ⟨#[]⟩ (.slice none 0 0) []) := Lib.hid (Cg.new _ _ (by decide) HB3.out (by have := HG3.out; have := B2.out.lt; omega))
      have B24 : Hid (Box w3 w.heap.size 32 (ccs ck0 none 0)) := Lib.hid (B2.out.kp HK3.out (fun e => e))
      have K4 : Hid (Kp (fun _ => False) w w3) := Lib.hid (K0.out.trans HK3.out)
      go_upto_region 6 with fail
      clear y0 d1
      go_upto_region 7 with (first | (refine wpList_new rfl rfl 55 rfl (.tmp 5) (.tmp 34) rfl zOp (ocs (r, false)).toList rfl (fun _ => rfl) (fun _ => rfl) (ocs_one (r, false)) ?_; intro w5 g5 hg5 hb5 hk5; have HK5 := Lib.hid hk5; have HG5 := Lib.hid hg5; have HB5 := Lib.hid hb5; clear hk5 hg5 hb5) | fail)
      have U5 : Hid (Ru w w5 g g5 kind ⟨#[]⟩ (.slice none 0 0) [] (r, false)) := Lib.hid ⟨(C4.out.still HK5.out), HB5.out, (B24.out.kp HK5.out (fun e => e)), K4.out.trans HK5.out, HRL.out, by have := HG5.out; have := B24.out.lt; omega⟩
      clear HK5 HG5 HB5 hsz hn0 hn1 h1n hidx he
      go_upto_region 8 with (first | (refine wpList_load_mid rfl 55 (.tmp 5) rfl g5 0 rfl (ocs (r, false)).toList _ U5.out.o.range' Try.underlying55 rfl (by kernel_rfl) ?_) | fail)
      refine (rtake1 (r, false) _ (by have := HRL.out; dsimp only; omega)).mono ?_
      rintro e w6 ⟨rfl, k6⟩
      have U6 := Lib.hid (U5.out.still k6)
      clear k6
      obtain ⟨cnt, hcnt⟩ : ∃ cnt, cnt = rfN r := ⟨_, rfl⟩
      obtain ⟨s2, hs2⟩ : ∃ s2, s2 = rfS r := ⟨_, rfl⟩
      rw [show numN (gv 1 (r, false)).1 = cnt from hcnt.symm, show (gv 1 (r, false)).2 = s2 from hs2.symm]
      have hc8 : cnt < 256 := by rw [hcnt]; exact rfN_lt r
      have HL2 : Hid (s2.1.length ≤ 600) := Lib.hid (by rw [hs2]; exact Nat.le_trans (gv_left _ _) HRL.out)
      have HCNT := Lib.hid hcnt
      have HS2 := Lib.hid hs2
      clear hcnt hs2
      go_upto_region 8 with (first | (refine nstore_box rfl 55 (.tmp 5) (.tmp 39) rfl g5 (ocs s2).toList rfl rfl U6.out.o rfl (by kernel_rfl) (ocs_one s2) ?_; intro w7 hb7 hk7; have U7 := Lib.hid (U6.out.setOp hb7 hk7 HL2.out); clear hb7 hk7) | fail)
      go_wp2_with fail
      go_loopw [7] (fun s7 wr => ∃ k : Nat, ∃ vs : Value, k ≤ cnt ∧ s7 = .int .u64 k ∧ Ru w wr g g5 kind ⟨#[]⟩ vs (rdKs kind k s2).1 (rdKs kind k s2).2) (fun s7 _ => cnt - (Go.RowKit.intOf s7).toNat)
      case atStart => exact ⟨0, .slice none 0 0, Nat.zero_le _, rfl, U7.out⟩
      case round =>
        obtain ⟨k, vs, hk, rfl, hu⟩ := hrel
        have UR := Lib.hid hu
        clear hu
        by_cases hlt : k < cnt
        · obtain ⟨ks, hks⟩ : ∃ ks, ks = (rdKs kind k s2).1 := ⟨_, rfl⟩
          obtain ⟨st, hst⟩ : ∃ st, st = (rdKs kind k s2).2 := ⟨_, rfl⟩
          have hkl : ks.length = k := by rw [hks]; exact rdKs_len _ _ _
          rw [← hks, ← hst] at UR
          have HKS := Lib.hid hks
          have HST := Lib.hid hst
          have HKL := Lib.hid hkl
          clear hks hst hkl
          have hd0 : (k : Int) < (cnt : Int) := by omega
          have y0 : wr.cell? ⟨g, 0, none⟩ = some (.int .u8 kind) := UR.out.c.box.cell 0
          go_upto_region 12 with fail
          rw [zero_kid]
          obtain ⟨w1, hw1⟩ : ∃ w1, w1 = wr.alloc (.cells (kcs kd0).toArray 58) := ⟨_, rfl⟩
          obtain ⟨g8, hg8⟩ : ∃ g8, g8 = wr.heap.size := ⟨_, rfl⟩
          have X1 : Hid (Rk w w1 g g5 g8 kind ⟨#[]⟩ vs ks st kd0) := Lib.hid (by
            rw [hg8, hw1]
            exact UR.out.kid (Box.new wr _ _) kd0_ok (Nat.le_refl _) ((Kp.refl _ wr).alloc _))
          rw [← hw1, ← hg8]
          clear hw1 hg8 y0 hd0
          have y0 : w1.cell? ⟨g, 0, none⟩ = some (.int .u8 kind) := X1.out.u.c.box.cell 0
          by_cases h3 : kind = 3
          · have d3 : ((kind : Int) == 3) = true := by simp; omega
            have H3 := Lib.hid h3
            clear h3
            go_upto_region 14 with (first | (refine wpList_load_mid rfl 55 (.tmp 5) rfl g5 0 rfl (ocs st).toList _ X1.out.u.o.range' Try.underlying55 rfl (by kernel_rfl) ?_) | fail)
            clear y0 d3
            refine (rtake1 st _ (by have := X1.out.u.ln; omega)).mono ?_
            rintro e w2 ⟨rfl, k2⟩
            have X2 := Lib.hid (X1.out.still k2)
            clear k2
            obtain ⟨dn, hdn⟩ : ∃ dn, dn = numN (gv 1 st).1 := ⟨_, rfl⟩
            obtain ⟨s3, hs3⟩ : ∃ s3, s3 = (gv 1 st).2 := ⟨_, rfl⟩
            rw [← hdn, ← hs3]
            obtain ⟨dd, hdd⟩ : ∃ dd, dd = decide (dn = 1) := ⟨_, rfl⟩
            have dm : ((dn : Int) == 1) = dd := by rw [hdd, Bool.eq_iff_iff]; simp; omega
            have HL3 : Hid (s3.1.length ≤ 600) := Lib.hid (by rw [hs3]; exact Nat.le_trans (gv_left _ _) X1.out.u.ln)
            have HDN := Lib.hid hdn
            have HS3 := Lib.hid hs3
            have HDD := Lib.hid hdd
            clear hdn hs3 hdd
            have HDM := Lib.hid dm
            clear dm
            go_upto_region 14 with (first | (refine wpList_newA rfl rfl rfl 55 rfl (.tmp 56) rfl (.tmp 10) (.tmp 57) rfl zOp (ocs s3).toList rfl (fun _ => rfl) (fun _ => rfl) (ocs_one s3) ?_; intro w3 g10 hg hb hk; have B10 := Lib.hid hb; have HG10 := Lib.hid hg; have X10 := Lib.hid (X2.out.still hk); clear hg hb hk) | fail)
            go_upto_region 15 with (first | (refine wpList_load_mid rfl 55 (.tmp 10) rfl g10 0 rfl (ocs s3).toList _ B10.out.range' Try.underlying55 rfl (by kernel_rfl) ?_) | fail)
            refine (rname_any s3 _ (by have := HL3.out; omega)).mono ?_
            rintro e w4 ⟨rfl, k4⟩
            have X4 := Lib.hid (X10.out.still k4)
            clear k4
            obtain ⟨nm, hnm⟩ : ∃ nm : ByteArray, nm = ⟨(gn s3).1.toArray⟩ := ⟨_, rfl⟩
            obtain ⟨s4, hs4⟩ : ∃ s4, s4 = (gn s3).2 := ⟨_, rfl⟩
            rw [← hnm, ← hs4]
            have HL4 : Hid (s4.1.length ≤ 600) := Lib.hid (by rw [hs4]; exact Nat.le_trans (gv_left _ _) HL3.out)
            have HNM := Lib.hid hnm
            have HS4 := Lib.hid hs4
            clear hnm hs4
            go_upto_region 15 with (first | (refine wpList_newA rfl rfl rfl 55 rfl (.tmp 61) rfl (.tmp 12) (.tmp 62) rfl zOp (ocs s4).toList rfl (fun _ => rfl) (fun _ => rfl) (ocs_one s4) ?_; intro w5 g12 hg hb hk; have B12 := Lib.hid hb; have HG12 := Lib.hid hg; have X12 := Lib.hid (X4.out.still hk); clear hg hb hk) | fail)
            have dm := HDM.out
            have y1 : w5.cell? ⟨g8, 1, none⟩ = some (.bool false) := (kid_cells X12.out.x.range' kd0_ok).2.1
            have yf : w5.frozen? ⟨g8, 1, none⟩ = false := X12.out.x.free 1
            go_upto_region 16 with fail
            have X5 := Lib.hid (X12.out.setDir dd)
            obtain ⟨w6, hw6⟩ : ∃ w6, w6 = w5.setCell ⟨g8, 1, none⟩ (.bool dd) := ⟨_, rfl⟩
            have BB : Hid (Box w6 g12 55 (ocs s4)) := Lib.hid (by rw [hw6]; exact B12.out.kp (Kp.one _ _ _ _) (by have := HG12.out; have := X4.out.x.lt; omega))
            rw [← hw6] at X5 ⊢
            clear hw6 y1 yf dm
            have y1 : w6.cell? ⟨g8, 0, none⟩ = some (.string kd0.name) := (kid_cells X5.out.x.range' kd0_ok).1
            have yf : w6.frozen? ⟨g8, 0, none⟩ = false := X5.out.x.free 0
            go_upto_region 17 with fail
            have X6 := Lib.hid (X5.out.setName nm)
            obtain ⟨w7x, hw7⟩ : ∃ w7x, w7x = w6.setCell ⟨g8, 0, none⟩ (.string nm) := ⟨_, rfl⟩
            have BC : Hid (Box w7x g12 55 (ocs s4)) := Lib.hid (by rw [hw7]; exact BB.out.kp (Kp.one _ _ _ _) (by have := HG12.out; have := X4.out.x.lt; omega))
            rw [← hw7] at X6 ⊢
            clear hw7 y1 yf
            go_upto_region 18 with (first | (refine wpList_load_mid rfl 55 (.tmp 12) rfl g12 0 rfl (ocs s4).toList _ BC.out.range' Try.underlying55 rfl (by kernel_rfl) ?_) | (refine nstore_box rfl 55 (.tmp 5) (.tmp 68) rfl g5 (ocs s4).toList rfl rfl X6.out.u.o rfl (by kernel_rfl) (ocs_one s4) ?_; intro w8 hb hk; have X7 := Lib.hid (X6.out.setOp hb hk HL4.out); clear hb hk) | fail)
            have HHD : Hid (rdHd kind st = ((nm, dd), s4)) := Lib.hid (by
              unfold rdHd
              rw [if_pos H3.out, ← HDN.out, ← HS3.out, ← HNM.out, ← HS4.out, HDD.out])
            clear BB BC B10 B12 X1 X2 X10 X4 X12 X5 X6
            obtain ⟨kd1, hkd1⟩ : ∃ kd1 : Kd, kd1 = { kd0 with dir := dd, name := nm } := ⟨_, rfl⟩
            have K1 : Hid (rdHd kind st = ((kd1.name, kd1.dir), s4) ∧ kd1.hash = List.replicate 32 0) := Lib.hid ⟨by rw [hkd1]; exact HHD.out, by rw [hkd1]; rfl⟩
            have Y1 : Hid (Rk w w8 g g5 g8 kind ⟨#[]⟩ vs ks s4 kd1) := Lib.hid (by rw [hkd1]; exact X7.out)
            clear hkd1 X7 HHD
            go_upto_region 19 with (first | (refine wpList_load_mid rfl 55 (.tmp 5) rfl g5 0 rfl (ocs s4).toList _ Y1.out.u.o.range' Try.underlying55 rfl (by kernel_rfl) ?_) | fail)
            refine (rtext_any 32 s4 _ (by have := Y1.out.u.ln; omega)).mono ?_
            rintro e v2 ⟨rfl, k2⟩
            have Y2 := Lib.hid (Y1.out.still k2)
            clear k2
            obtain ⟨hx, hhx⟩ : ∃ hx, hx = (gv 32 s4).1 := ⟨_, rfl⟩
            obtain ⟨t6, ht6⟩ : ∃ t6, t6 = (gv 32 s4).2 := ⟨_, rfl⟩
            rw [← hhx, ← ht6]
            have HXC : Hid (hx.length = 32 ∨ hx = []) := Lib.hid (by rw [hhx]; exact gv_cases _ _)
            have HT6 : Hid (t6.1.length ≤ 600) := Lib.hid (by rw [ht6]; exact Nat.le_trans (gv_left _ _) Y1.out.u.ln)
            have HHX := Lib.hid hhx
            have HE6 := Lib.hid ht6
            clear hhx ht6
            go_upto_region 19 with (first | (refine wpList_newA rfl rfl rfl 55 rfl (.tmp 72) rfl (.tmp 14) (.tmp 73) rfl zOp (ocs t6).toList rfl (fun _ => rfl) (fun _ => rfl) (ocs_one t6) ?_; intro v3 g14 hg hb hk; have B14 := Lib.hid hb; have HG14 := Lib.hid hg; have X14 := Lib.hid (Y2.out.still hk); clear hg hb hk) | fail)
            go_upto_region 20 with (first | (refine wpList_load_mid rfl 55 (.tmp 14) rfl g14 0 rfl (ocs t6).toList _ B14.out.range' Try.underlying55 rfl (by kernel_rfl) ?_) | fail)
            refine (rtake1 t6 _ (by have := HT6.out; omega)).mono ?_
            rintro e v4 ⟨rfl, k4⟩
            have Y4 := Lib.hid (X14.out.still k4)
            clear k4
            obtain ⟨hn, hhn⟩ : ∃ hn, hn = numN (gv 1 t6).1 := ⟨_, rfl⟩
            obtain ⟨t7, ht7⟩ : ∃ t7, t7 = (gv 1 t6).2 := ⟨_, rfl⟩
            rw [← hhn, ← ht7]
            have HH8 : Hid (hn < 256) := Lib.hid (by rw [hhn]; exact num1_lt _)
            have HT7 : Hid (t7.1.length ≤ 600) := Lib.hid (by rw [ht7]; exact Nat.le_trans (gv_left _ _) HT6.out)
            have HHN := Lib.hid hhn
            have HE7 := Lib.hid ht7
            clear hhn ht7
            go_upto_region 20 with (first | (refine wpList_newA rfl rfl rfl 55 rfl (.tmp 77) rfl (.tmp 16) (.tmp 78) rfl zOp (ocs t7).toList rfl (fun _ => rfl) (fun _ => rfl) (ocs_one t7) ?_; intro v5 g16 hg hb hk; have B16 := Lib.hid hb; have HG16 := Lib.hid hg; have X16 := Lib.hid (Y4.out.still hk); clear hg hb hk) | fail)
            go_upto_region 21 with (first | (refine wpList_load_mid rfl 55 (.tmp 16) rfl g16 0 rfl (ocs t7).toList _ B16.out.range' Try.underlying55 rfl (by kernel_rfl) ?_) | fail)
            refine (rtake4 t7 _ (by have := HT7.out; omega)).mono ?_
            rintro e v6 ⟨rfl, k6⟩
            have Y6 := Lib.hid (X16.out.still k6)
            clear k6
            obtain ⟨sn, hsn⟩ : ∃ sn, sn = numN (gv 4 t7).1 := ⟨_, rfl⟩
            obtain ⟨t8, ht8⟩ : ∃ t8, t8 = (gv 4 t7).2 := ⟨_, rfl⟩
            rw [← hsn, ← ht8]
            have HS8 : Hid (sn < 4294967296) := Lib.hid (by rw [hsn]; exact num4_lt _)
            have HT8 : Hid (t8.1.length ≤ 600) := Lib.hid (by rw [ht8]; exact Nat.le_trans (gv_left _ _) HT7.out)
            have HSN := Lib.hid hsn
            have HE8 := Lib.hid ht8
            clear hsn ht8
            go_upto_region 21 with (first | (refine wpList_newA rfl rfl rfl 55 rfl (.tmp 82) rfl (.tmp 18) (.tmp 83) rfl zOp (ocs t8).toList rfl (fun _ => rfl) (fun _ => rfl) (ocs_one t8) ?_; intro v7 g18 hg hb hk; have B18 := Lib.hid hb; have HG18 := Lib.hid hg; have X18 := Lib.hid (Y6.out.still hk); clear hg hb hk) | fail)
            go_upto_region 22 with (first | (refine wpList_load_mid rfl 55 (.tmp 18) rfl g18 0 rfl (ocs t8).toList _ B18.out.range' Try.underlying55 rfl (by kernel_rfl) ?_) | (refine nstore_box rfl 55 (.tmp 5) (.tmp 84) rfl g5 (ocs t8).toList rfl rfl X18.out.u.o rfl (by kernel_rfl) (ocs_one t8) ?_; intro v8 hb hk; have Y8 := Lib.hid (X18.out.setOp hb hk HT8.out); clear hb hk) | fail)
            clear B14 B16 B18 X14 X16 X18 Y2 Y4 Y6 Y1
            go_upto_region 23 with (first | (refine wpList_copy_kid rfl (.tmp 86) (.tmp 87) 29 9 rfl 5 Try.underlying29 (by kernel_rfl) g8 rfl hx rfl HXC.out 58 kd1 Y8.out.ok Y8.out.x ?_; intro nn v9 hb hk; have Y9 := Lib.hid (Y8.out.turn hk hb ⟨by split; assumption; exact Y8.out.ok.1, Y8.out.ok.2⟩); clear hb hk) | fail)
            obtain ⟨kd2, hkd2⟩ : ∃ kd2 : Kd, kd2 = { kd1 with hash := if hx.length = 32 then hx else kd1.hash } := ⟨_, rfl⟩
            rw [← hkd2] at Y9
            have HKD2 := Lib.hid hkd2
            clear hkd2
            have hwh : IntKind.u8.wrap (hn : Int) = (hn : Int) := IntWalk.u8_in _ (by have := HH8.out; omega)
            have hws : IntKind.u32.wrap (sn : Int) = (sn : Int) := IntWalk.u32_in _ (by have := HS8.out; omega)
            have y1 : v9.cell? ⟨g8, 34, none⟩ = some (.int .u8 kd2.ht) := by simpa using (kid_cells Y9.out.x.range' Y9.out.ok).2.2.1
            have yf : v9.frozen? ⟨g8, 34, none⟩ = false := Y9.out.x.free 34
            go_upto_region 24 with fail
            have Y10 := Lib.hid (Y9.out.setHt hn HH8.out)
            obtain ⟨v10, hv10⟩ : ∃ v10, v10 = v9.setCell ⟨g8, 34, none⟩ (.int .u8 hn) := ⟨_, rfl⟩
            rw [← hv10] at Y10 ⊢
            clear hv10 y1 yf
            have y1 : v10.cell? ⟨g8, 35, none⟩ = some (.int .u32 kd2.sz) := by simpa using (kid_cells Y10.out.x.range' Y10.out.ok).2.2.2.1
            have yf : v10.frozen? ⟨g8, 35, none⟩ = false := Y10.out.x.free 35
            go_upto_region 25 with fail
            have Y11 := Lib.hid (Y10.out.setSz sn HS8.out)
            obtain ⟨v11, hv11⟩ : ∃ v11, v11 = v10.setCell ⟨g8, 35, none⟩ (.int .u32 sn) := ⟨_, rfl⟩
            rw [← hv11] at Y11 ⊢
            clear hv11 y1 yf hwh hws
            obtain ⟨kf, hkf⟩ : ∃ kf : Kd, kf = { kd2 with ht := hn, sz := sn } := ⟨_, rfl⟩
            have Y12 : Hid (Rk w v11 g g5 g8 kind ⟨#[]⟩ vs ks t8 kf) := Lib.hid (by rw [hkf]; exact Y11.out)
            have HKF : Hid (rdKd' kind st = (kf, t8)) := Lib.hid (by
              rw [rd_by K1.out.1 K1.out.2, hkf, HKD2.out, ← HHX.out, ← HE6.out, ← HHN.out, ← HE7.out, ← HSN.out, ← HE8.out])
            clear hkf Y11 Y10 Y9 Y8
            obtain ⟨iK, zK, i1, i2, i3, i4, i5⟩ := infoRKid
            have y2 : v11.cell? ⟨g, 2, none⟩ = some vs := Y12.out.u.c.box.cell 2
            go_upto_region 10 with (first | (refine wpList_load_mid rfl 58 (.tmp 8) rfl g8 0 rfl (kcs kf) _ Y12.out.x.range' Try.underlying58 rfl (by rw [kcs_len Y12.out.ok]; exact zRKid.size) ?_) | (refine wpList_slice1 rfl 30 58 (.tmp 97) rfl Try.underlying30 zRKid (by decide) (by decide) (kcs kf) rfl (kcs_len Y12.out.ok) ?_; intro v12 gn hgn hbn hkn hsn; have HBN := Lib.hid hbn; have Y13 := Lib.hid (Y12.out.still hkn); clear y2 hgn hbn hkn hsn; try simp only [Act.put, List.setIfInBounds_toArray, List.set_cons_zero, List.set_cons_succ]) | (refine wpList_append_at rfl (.tmp 96) (.tmp 98) 30 rfl 0 58 iK zK 36 56 Try.underlying30 i1 i2 i3 i4 i5 (by decide) vs ks.length (kss ks) rfl Y13.out.u.c.row ⟨gn, 0, none⟩ 1 1 (kcs kf) rfl (by rw [kcs_len Y12.out.ok]) (fun j u hu => World.news_of_block HBN.out j u (by simpa using hu)) (kcs_one kf) (by have := HKL.out; unfold maxLen; omega) (by have := HKL.out; omega) (Nat.zero_le _) ?_; intro v13 v14 hown hg hat; obtain ⟨A5, c5, rfl⟩ := own_shapeN hown; have HAP := Lib.hid (Y13.out.app kf Y12.out.ok hown hg hat); have y2 : v14.cell? ⟨g, 2, none⟩ = some vs := (Y13.out.u.c.box.kp (grown_kp hg) Y13.out.u.c.bg).cell 2; have yf : v14.frozen? ⟨g, 2, none⟩ = false := (Y13.out.u.c.box.kp (grown_kp hg) Y13.out.u.c.bg).free 2; clear hown hg hat) | fail)
            obtain ⟨v15, hv15⟩ : ∃ v15, v15 = v14.setCell ⟨g, 2, none⟩ (.slice A5 (ks.length + 1) c5) := ⟨_, rfl⟩
            rw [← hv15] at HAP ⊢
            clear hv15 y2 yf
            have hwk : IntKind.u64.wrap ((k : Int) + 1) = ((k + 1 : Nat) : Int) := by rw [IntWalk.u64_in _ (by omega)]; rfl
            go_wp2_with fail
            go_roundw
            case rel => exact ⟨k + 1, _, by omega, by go_num, by
              obtain ⟨e1, e2⟩ := rf_next kind k s2
              rw [e1, e2, ← HKS.out, ← HST.out, HKF.out]
              exact HAP.out⟩
            case measure => simp [Go.RowKit.intOf]; omega
          · have d3 : ((kind : Int) == 3) = false := by simp; omega
            have HHD : Hid (rdHd kind st = ((⟨#[]⟩, false), st)) := Lib.hid (by unfold rdHd; rw [if_neg h3])
            clear h3
            go_upto_region 18 with fail
            clear y0 d3
            obtain ⟨kd1, hkd1⟩ : ∃ kd1 : Kd, kd1 = kd0 := ⟨_, rfl⟩
            have K1 : Hid (rdHd kind st = ((kd1.name, kd1.dir), st) ∧ kd1.hash = List.replicate 32 0) := Lib.hid ⟨by rw [hkd1]; exact HHD.out, by rw [hkd1]; rfl⟩
            have Y1 : Hid (Rk w w1 g g5 g8 kind ⟨#[]⟩ vs ks st kd1) := Lib.hid (by rw [hkd1]; exact X1.out)
            clear hkd1 X1 HHD
            go_upto_region 19 with (first | (refine wpList_load_mid rfl 55 (.tmp 5) rfl g5 0 rfl (ocs st).toList _ Y1.out.u.o.range' Try.underlying55 rfl (by kernel_rfl) ?_) | fail)
            refine (rtext_any 32 st _ (by have := Y1.out.u.ln; omega)).mono ?_
            rintro e v2 ⟨rfl, k2⟩
            have Y2 := Lib.hid (Y1.out.still k2)
            clear k2
            obtain ⟨hx, hhx⟩ : ∃ hx, hx = (gv 32 st).1 := ⟨_, rfl⟩
            obtain ⟨t6, ht6⟩ : ∃ t6, t6 = (gv 32 st).2 := ⟨_, rfl⟩
            rw [← hhx, ← ht6]
            have HXC : Hid (hx.length = 32 ∨ hx = []) := Lib.hid (by rw [hhx]; exact gv_cases _ _)
            have HT6 : Hid (t6.1.length ≤ 600) := Lib.hid (by rw [ht6]; exact Nat.le_trans (gv_left _ _) Y1.out.u.ln)
            have HHX := Lib.hid hhx
            have HE6 := Lib.hid ht6
            clear hhx ht6
            go_upto_region 19 with (first | (refine wpList_newA rfl rfl rfl 55 rfl (.tmp 72) rfl (.tmp 14) (.tmp 73) rfl zOp (ocs t6).toList rfl (fun _ => rfl) (fun _ => rfl) (ocs_one t6) ?_; intro v3 g14 hg hb hk; have B14 := Lib.hid hb; have HG14 := Lib.hid hg; have X14 := Lib.hid (Y2.out.still hk); clear hg hb hk) | fail)
            go_upto_region 20 with (first | (refine wpList_load_mid rfl 55 (.tmp 14) rfl g14 0 rfl (ocs t6).toList _ B14.out.range' Try.underlying55 rfl (by kernel_rfl) ?_) | fail)
            refine (rtake1 t6 _ (by have := HT6.out; omega)).mono ?_
            rintro e v4 ⟨rfl, k4⟩
            have Y4 := Lib.hid (X14.out.still k4)
            clear k4
            obtain ⟨hn, hhn⟩ : ∃ hn, hn = numN (gv 1 t6).1 := ⟨_, rfl⟩
            obtain ⟨t7, ht7⟩ : ∃ t7, t7 = (gv 1 t6).2 := ⟨_, rfl⟩
            rw [← hhn, ← ht7]
            have HH8 : Hid (hn < 256) := Lib.hid (by rw [hhn]; exact num1_lt _)
            have HT7 : Hid (t7.1.length ≤ 600) := Lib.hid (by rw [ht7]; exact Nat.le_trans (gv_left _ _) HT6.out)
            have HHN := Lib.hid hhn
            have HE7 := Lib.hid ht7
            clear hhn ht7
            go_upto_region 20 with (first | (refine wpList_newA rfl rfl rfl 55 rfl (.tmp 77) rfl (.tmp 16) (.tmp 78) rfl zOp (ocs t7).toList rfl (fun _ => rfl) (fun _ => rfl) (ocs_one t7) ?_; intro v5 g16 hg hb hk; have B16 := Lib.hid hb; have HG16 := Lib.hid hg; have X16 := Lib.hid (Y4.out.still hk); clear hg hb hk) | fail)
            go_upto_region 21 with (first | (refine wpList_load_mid rfl 55 (.tmp 16) rfl g16 0 rfl (ocs t7).toList _ B16.out.range' Try.underlying55 rfl (by kernel_rfl) ?_) | fail)
            refine (rtake4 t7 _ (by have := HT7.out; omega)).mono ?_
            rintro e v6 ⟨rfl, k6⟩
            have Y6 := Lib.hid (X16.out.still k6)
            clear k6
            obtain ⟨sn, hsn⟩ : ∃ sn, sn = numN (gv 4 t7).1 := ⟨_, rfl⟩
            obtain ⟨t8, ht8⟩ : ∃ t8, t8 = (gv 4 t7).2 := ⟨_, rfl⟩
            rw [← hsn, ← ht8]
            have HS8 : Hid (sn < 4294967296) := Lib.hid (by rw [hsn]; exact num4_lt _)
            have HT8 : Hid (t8.1.length ≤ 600) := Lib.hid (by rw [ht8]; exact Nat.le_trans (gv_left _ _) HT7.out)
            have HSN := Lib.hid hsn
            have HE8 := Lib.hid ht8
            clear hsn ht8
            go_upto_region 21 with (first | (refine wpList_newA rfl rfl rfl 55 rfl (.tmp 82) rfl (.tmp 18) (.tmp 83) rfl zOp (ocs t8).toList rfl (fun _ => rfl) (fun _ => rfl) (ocs_one t8) ?_; intro v7 g18 hg hb hk; have B18 := Lib.hid hb; have HG18 := Lib.hid hg; have X18 := Lib.hid (Y6.out.still hk); clear hg hb hk) | fail)
            go_upto_region 22 with (first | (refine wpList_load_mid rfl 55 (.tmp 18) rfl g18 0 rfl (ocs t8).toList _ B18.out.range' Try.underlying55 rfl (by kernel_rfl) ?_) | (refine nstore_box rfl 55 (.tmp 5) (.tmp 84) rfl g5 (ocs t8).toList rfl rfl X18.out.u.o rfl (by kernel_rfl) (ocs_one t8) ?_; intro v8 hb hk; have Y8 := Lib.hid (X18.out.setOp hb hk HT8.out); clear hb hk) | fail)
            clear B14 B16 B18 X14 X16 X18 Y2 Y4 Y6 Y1
            go_upto_region 23 with (first | (refine wpList_copy_kid rfl (.tmp 86) (.tmp 87) 29 9 rfl 5 Try.underlying29 (by kernel_rfl) g8 rfl hx rfl HXC.out 58 kd1 Y8.out.ok Y8.out.x ?_; intro nn v9 hb hk; have Y9 := Lib.hid (Y8.out.turn hk hb ⟨by split; assumption; exact Y8.out.ok.1, Y8.out.ok.2⟩); clear hb hk) | fail)
            obtain ⟨kd2, hkd2⟩ : ∃ kd2 : Kd, kd2 = { kd1 with hash := if hx.length = 32 then hx else kd1.hash } := ⟨_, rfl⟩
            rw [← hkd2] at Y9
            have HKD2 := Lib.hid hkd2
            clear hkd2
            have hwh : IntKind.u8.wrap (hn : Int) = (hn : Int) := IntWalk.u8_in _ (by have := HH8.out; omega)
            have hws : IntKind.u32.wrap (sn : Int) = (sn : Int) := IntWalk.u32_in _ (by have := HS8.out; omega)
            have y1 : v9.cell? ⟨g8, 34, none⟩ = some (.int .u8 kd2.ht) := by simpa using (kid_cells Y9.out.x.range' Y9.out.ok).2.2.1
            have yf : v9.frozen? ⟨g8, 34, none⟩ = false := Y9.out.x.free 34
            go_upto_region 24 with fail
            have Y10 := Lib.hid (Y9.out.setHt hn HH8.out)
            obtain ⟨v10, hv10⟩ : ∃ v10, v10 = v9.setCell ⟨g8, 34, none⟩ (.int .u8 hn) := ⟨_, rfl⟩
            rw [← hv10] at Y10 ⊢
            clear hv10 y1 yf
            have y1 : v10.cell? ⟨g8, 35, none⟩ = some (.int .u32 kd2.sz) := by simpa using (kid_cells Y10.out.x.range' Y10.out.ok).2.2.2.1
            have yf : v10.frozen? ⟨g8, 35, none⟩ = false := Y10.out.x.free 35
            go_upto_region 25 with fail
            have Y11 := Lib.hid (Y10.out.setSz sn HS8.out)
            obtain ⟨v11, hv11⟩ : ∃ v11, v11 = v10.setCell ⟨g8, 35, none⟩ (.int .u32 sn) := ⟨_, rfl⟩
            rw [← hv11] at Y11 ⊢
            clear hv11 y1 yf hwh hws
            obtain ⟨kf, hkf⟩ : ∃ kf : Kd, kf = { kd2 with ht := hn, sz := sn } := ⟨_, rfl⟩
            have Y12 : Hid (Rk w v11 g g5 g8 kind ⟨#[]⟩ vs ks t8 kf) := Lib.hid (by rw [hkf]; exact Y11.out)
            have HKF : Hid (rdKd' kind st = (kf, t8)) := Lib.hid (by
              rw [rd_by K1.out.1 K1.out.2, hkf, HKD2.out, ← HHX.out, ← HE6.out, ← HHN.out, ← HE7.out, ← HSN.out, ← HE8.out])
            clear hkf Y11 Y10 Y9 Y8
            obtain ⟨iK, zK, i1, i2, i3, i4, i5⟩ := infoRKid
            have y2 : v11.cell? ⟨g, 2, none⟩ = some vs := Y12.out.u.c.box.cell 2
            go_upto_region 10 with (first | (refine wpList_load_mid rfl 58 (.tmp 8) rfl g8 0 rfl (kcs kf) _ Y12.out.x.range' Try.underlying58 rfl (by rw [kcs_len Y12.out.ok]; exact zRKid.size) ?_) | (refine wpList_slice1 rfl 30 58 (.tmp 97) rfl Try.underlying30 zRKid (by decide) (by decide) (kcs kf) rfl (kcs_len Y12.out.ok) ?_; intro v12 gn hgn hbn hkn hsn; have HBN := Lib.hid hbn; have Y13 := Lib.hid (Y12.out.still hkn); clear y2 hgn hbn hkn hsn; try simp only [Act.put, List.setIfInBounds_toArray, List.set_cons_zero, List.set_cons_succ]) | (refine wpList_append_at rfl (.tmp 96) (.tmp 98) 30 rfl 0 58 iK zK 36 56 Try.underlying30 i1 i2 i3 i4 i5 (by decide) vs ks.length (kss ks) rfl Y13.out.u.c.row ⟨gn, 0, none⟩ 1 1 (kcs kf) rfl (by rw [kcs_len Y12.out.ok]) (fun j u hu => World.news_of_block HBN.out j u (by simpa using hu)) (kcs_one kf) (by have := HKL.out; unfold maxLen; omega) (by have := HKL.out; omega) (Nat.zero_le _) ?_; intro v13 v14 hown hg hat; obtain ⟨A5, c5, rfl⟩ := own_shapeN hown; have HAP := Lib.hid (Y13.out.app kf Y12.out.ok hown hg hat); have y2 : v14.cell? ⟨g, 2, none⟩ = some vs := (Y13.out.u.c.box.kp (grown_kp hg) Y13.out.u.c.bg).cell 2; have yf : v14.frozen? ⟨g, 2, none⟩ = false := (Y13.out.u.c.box.kp (grown_kp hg) Y13.out.u.c.bg).free 2; clear hown hg hat) | fail)
            obtain ⟨v15, hv15⟩ : ∃ v15, v15 = v14.setCell ⟨g, 2, none⟩ (.slice A5 (ks.length + 1) c5) := ⟨_, rfl⟩
            rw [← hv15] at HAP ⊢
            clear hv15 y2 yf
            have hwk : IntKind.u64.wrap ((k : Int) + 1) = ((k + 1 : Nat) : Int) := by rw [IntWalk.u64_in _ (by omega)]; rfl
            go_wp2_with fail
            go_roundw
            case rel => exact ⟨k + 1, _, by omega, by go_num, by
              obtain ⟨e1, e2⟩ := rf_next kind k s2
              rw [e1, e2, ← HKS.out, ← HST.out, HKF.out]
              exact HAP.out⟩
            case measure => simp [Go.RowKit.intOf]; omega
        · obtain rfl : k = cnt := by omega
          have hd0 : ¬ (k : Int) < (k : Int) := by omega
          obtain ⟨A4, n4, hcs, hck⟩ := UR.out.c.chunk HK8.out
          have HRC : Hid (rfC (x :: r) = ⟨kind, ⟨#[]⟩, (rdKs kind k s2).1⟩) := Lib.hid (by rw [rfC_cons, if_neg (fun e => HK1.out (HKD.out.trans e)), ← HKD.out, ← HCNT.out, ← HS2.out])
          have HCK := Lib.hid hck
          have HBR := Lib.hid (hcs ▸ UR.out.c.box)
          rw [← HRC.out] at HCK HBR
          clear hcs hck
          have h1000 : (rfC (x :: r)).kids.length ≤ 1000 := by rw [HRC.out]; dsimp only; rw [rdKs_len]; omega
          have H1000 := Lib.hid h1000
          clear h1000
          
          go_upto_region 26 with fail
          obtain ⟨c, hc⟩ : ∃ c, c = rfC (x :: r) := ⟨_, rfl⟩
          rw [← hc] at HRC HCK HBR H1000
          have HC := Lib.hid hc
          clear hc
          go_wp2_with (first | (refine wpList_load_mid rfl 32 (.tmp 4) rfl g 0 rfl (ccs c A4 n4).toList _ HBR.out.range' Try.underlying32 rfl (by kernel_rfl) ?_) | fail)
          refine (rmay_any c A4 n4 _ HCK.out H1000.out).mono ?_
          rintro e w8 ⟨rfl, k8⟩
          have HC8 := Lib.hid (HCK.out.still k8)
          have HB8 := Lib.hid (HBR.out.kp k8 (fun e => e))
          have U8 := Lib.hid (UR.out.still k8)
          clear k8
          rcases hm : mayB c with _ | _
          · have HT : Hid (takeC (x :: r) = (ck0, 3)) := Lib.hid (ref_no _ (.inl (HC.out ▸ hm)))
            clear hm
            go_wp2_with (first | (refine nstore_box rfl 32 (.tmp 2) (.tmp 110) rfl w.heap.size [.int .u8 0, .string ⟨#[]⟩, .slice none 0 0] rfl rfl U8.out.r rfl (by kernel_rfl) (ccs_one ck0 none 0) ?_; intro w9 hb9 hk9; have HB9 := Lib.hid hb9; have HK9 := Lib.hid hk9; clear hb9 hk9) | fail)
            refine bodyPost_ret (v := .tuple #[.agg (ccs ck0 none 0), .int .i64 3]) ?_ rfl ?_
            · exact nresults_two Hr.out _ _ w.heap.size _ _ (0, 0) _ rfl HB9.out Try.underlying32 rfl (by kernel_rfl)
            · rw [TakeEnd, HT.out]
              exact ⟨none, 0, rfl, .zero _, U8.out.kp.trans_new HK9.out (fun q e => .inl (by omega))⟩
          · have HM := Lib.hid hm
            clear hm
            have y0 : w8.cell? ⟨g, 0, none⟩ = some (.int .u8 c.kind) := HB8.out.cell 0
            have y1 : w8.cell? ⟨g, 1, none⟩ = some (.string c.data) := HB8.out.cell 1
            have y2 : w8.cell? ⟨g, 2, none⟩ = some (.slice A4 c.kids.length n4) := HB8.out.cell 2
            go_wp2_with fail
            refine (rput_any c A4 n4 _ HC8.out HM.out).mono ?_
            rintro e w9 ⟨rfl, k9⟩
            have HC9 := Lib.hid (HC8.out.still k9)
            have HB10 := Lib.hid (HB8.out.kp k9 (fun e => e))
            have U9 := Lib.hid (U8.out.still k9)
            clear k9 y0 y1 y2
            by_cases heq : putL c = x :: r
            · have HT : Hid (takeC (x :: r) = (c, 0)) := Lib.hid (by rw [HC.out]; exact ref_yes _ (HC.out ▸ HM.out) (HC.out ▸ heq))
              rw [heq]
              clear heq
              go_wp2_with (first | (refine wpList_load_mid rfl 32 (.tmp 4) rfl g 0 rfl (ccs c A4 n4).toList _ HB10.out.range' Try.underlying32 rfl (by kernel_rfl) ?_) | (refine nstore_box rfl 32 (.tmp 2) (.tmp 111) rfl w.heap.size (ccs c A4 n4).toList rfl rfl U9.out.r rfl (by kernel_rfl) (ccs_one _ _ _) ?_; intro w9 hb9 hk9; have HB9 := Lib.hid hb9; have HK9 := Lib.hid hk9; clear hb9 hk9) | fail)
              refine bodyPost_ret (v := .tuple #[.agg (ccs c A4 n4), .int .i64 0]) ?_ rfl ?_
              · exact nresults_two Hr.out _ _ w.heap.size _ _ (0, 0) _ rfl HB9.out Try.underlying32 rfl (by kernel_rfl)
              · rw [TakeEnd, HT.out]
                exact ⟨A4, n4, rfl, ⟨HC9.out.k.far HK9.out U9.out.r (ccs_no _ _ _), HC9.out.ok, HC9.out.le, HC9.out.mx⟩, U9.out.kp.trans_new HK9.out (fun q e => .inl (by omega))⟩
            · have HT : Hid (takeC (x :: r) = (ck0, 3)) := Lib.hid (ref_dif _ (HC.out ▸ HM.out) (HC.out ▸ heq))
              have hne : (putL c == x :: r) = false := by rw [beq_eq_false_iff_ne]; exact heq
              clear heq
              go_wp2_with (first | (refine nstore_box rfl 32 (.tmp 2) (.tmp 110) rfl w.heap.size [.int .u8 0, .string ⟨#[]⟩, .slice none 0 0] rfl rfl U9.out.r rfl (by kernel_rfl) (ccs_one ck0 none 0) ?_; intro w9 hb9 hk9; have HB9 := Lib.hid hb9; have HK9 := Lib.hid hk9; clear hb9 hk9) | fail)
              refine bodyPost_ret (v := .tuple #[.agg (ccs ck0 none 0), .int .i64 3]) ?_ rfl ?_
              · exact nresults_two Hr.out _ _ w.heap.size _ _ (0, 0) _ rfl HB9.out Try.underlying32 rfl (by kernel_rfl)
              · rw [TakeEnd, HT.out]
                exact ⟨none, 0, rfl, .zero _, U9.out.kp.trans_new HK9.out (fun q e => .inl (by omega))⟩
end Go.Proofs.Ytoonihhjdmkflaa
