/- NodePuts: shapes, pages and places are what the document says. No condition. -/
import Derived.Test.YtjapnkpicefadaaNdRMay
import Derived.Test.YtjapnkpicefadaaNdOrd
import Derived.Test.YtjapnkpicefadaaNdWake
import Derived.Test.YtjapnkpicefadaaNdOf
namespace Go.Proofs.Ytjapnkpicefadaa
open Go.RowKit

theorem is_more {kw : Int} : ∀ {p : ByteArray} {l : List ByteArray} (x : ByteArray), keysB kw p l = true → isB x l = decide (lessN x l < moreN x l)
  | _, [], x, _ => by simp [isB, lessN, moreN]
  | p, k :: r, x, h => by
    rw [keysB, Bool.and_eq_true] at h
    have ha := keys_above h.2
    have ih := is_more x h.2
    rcases hb : bls k x with _ | _
    · have hl : lessN x (k :: r) = 0 := by
        unfold lessN
        rw [List.countP_cons, hb]
        have : r.countP (fun y => bls y x) = 0 := List.countP_eq_zero.2 fun y hy e => by
          rw [bls_trans (ha y hy) e] at hb
          cases hb
        simp [this]
      by_cases hk : k = x
      · subst hk
        have hm : 0 < moreN k (k :: r) := by
          unfold moreN
          rw [List.countP_cons, ble_nb, bls_irr]
          simp
        rw [hl, decide_eq_true hm]
        unfold isB
        rw [hl]
        simp
      · have hx : bls x k = true := by
          have h1 : ble x k = true := by rw [ble_nb, hb]; rfl
          have h2 : (x.toList == k.toList) = false := by
            rw [eq_byt]
            exact decide_eq_false fun e => hk e.symm
          unfold ble at h1
          rwa [h2, Bool.or_false] at h1
        have hm : moreN x (k :: r) = 0 := by
          unfold moreN
          rw [List.countP_cons]
          have h6 : ble k x = false := by rw [ble_nb, hx]; rfl
          have : r.countP (fun y => ble y x) = 0 := List.countP_eq_zero.2 fun y hy => by
            rw [ble_nb, bls_trans hx (ha y hy)]
            exact Bool.false_ne_true
          rw [this, h6]
          rfl
        rw [hl, hm]
        unfold isB
        rw [hl]
        simp [hk]
    · have hl : lessN x (k :: r) = lessN x r + 1 := by
        unfold lessN
        rw [List.countP_cons, hb]
        simp
      have hm : moreN x (k :: r) = moreN x r + 1 := by
        unfold moreN
        rw [List.countP_cons]
        have : ble k x = true := by unfold ble; rw [hb]; rfl
        rw [this]
        simp
      rw [hl, hm]
      unfold isB at ih ⊢
      rw [hl, List.getElem?_cons_succ, ih]
      simp

def PutsEnd (w : World) (e : Ending) (w' : World) : Prop := e = .returned (.bool true) ∧ Kp (fun _ => False) w w'
set_option maxRecDepth 100000 in
set_option maxHeartbeats 16000000 in
theorem puts_any (kw vw : Int) (n : Nd) (p : Pl) (key : ByteArray) (w : World) (h : NdR w n p) :
    Calls Try.prog 3 #[.agg #[.int .i64 kw, .int .i64 vw], .agg (ncs n p), .string key] w (PutsEnd w) := by
  obtain ⟨W, hW, b0, b1, k0⟩ : ∃ W, W = (w.alloc (.cells #[.int .i64 kw, .int .i64 vw] 23)).alloc (.cells (ncs n p) 27) ∧ Box W w.heap.size 23 #[.int .i64 kw, .int .i64 vw] ∧ Box W (w.heap.size + 1) 27 (ncs n p) ∧ Kp (fun _ => False) w W := ⟨_, rfl, (Box.new w _ _).alloc _, by simpa using Box.new (w.alloc (.cells #[.int .i64 kw, .int .i64 vw] 23)) 27 (ncs n p), ((Kp.refl _ w).alloc _).alloc _⟩
  have HW := Lib.hid hW
  have K0 := Lib.hid k0
  have HF : Hid (∀ v, Kp (fun _ => False) W v → v.cell? ⟨w.heap.size, 0, none⟩ = some (.int .i64 kw) ∧ v.cell? ⟨w.heap.size, 1, none⟩ = some (.int .i64 vw) ∧ v.cell? ⟨w.heap.size + 1, 0, none⟩ = some (.bool n.leaf) ∧ v.cell? ⟨w.heap.size + 1, 1, none⟩ = some (.slice p.k n.keys.length p.ck) ∧ v.cell? ⟨w.heap.size + 1, 2, none⟩ = some (.slice p.v n.vals.length p.cv) ∧ v.cell? ⟨w.heap.size + 1, 3, none⟩ = some (.slice p.c n.kids.length p.cc)) := Lib.hid fun v hv =>
    ⟨(b0.kp hv (fun h => h)).cell 0, (b0.kp hv (fun h => h)).cell 1, (b1.kp hv (fun h => h)).cell 0, (b1.kp hv (fun h => h)).cell 1, (b1.kp hv (fun h => h)).cell 2, (b1.kp hv (fun h => h)).cell 3⟩
  have HRS : Hid (∀ v, Kp (fun _ => False) W v → Box v w.heap.size 23 #[.int .i64 kw, .int .i64 vw]) := Lib.hid fun v hv => b0.kp hv (fun h => h)
  have HNB : Hid (∀ v, Kp (fun _ => False) W v → Box v (w.heap.size + 1) 27 (ncs n p)) := Lib.hid fun v hv => b1.kp hv (fun h => h)
  have HR : Hid (∀ v, Kp (fun _ => False) W v → NdR v n p) := Lib.hid fun v hv => h.still (k0.trans hv)
  clear hW b0 b1 k0 h
  obtain ⟨y0, y1, y2, y3, y4, y5⟩ := HF.out W (Kp.refl _ _)
  go_enter Try.func3, Try.ntmps3
  go_upto_region 1 with fail
  rw [← HW.out]
  go_wp2_with fail
  refine (ngreat_any n p _ (HR.out W (Kp.refl _ _))).mono ?_
  rintro e w1 ⟨rfl, k1⟩
  have K1 := Lib.hid k1
  clear k1 y0 y1 y2 y3 y4 y5
  rcases hg : gtB n with _ | _
  · obtain ⟨hg1, hg2, hg3, hg4, hg5⟩ := gtB_no hg
    clear hg hg4 hg5
    obtain ⟨y0, y1, y2, y3, y4, y5⟩ := HF.out w1 K1.out
    clear y2 y3 y4 y5
    go_upto_region 4 with fail
    clear y0 y1
    obtain ⟨w2, hw2, b2, k2⟩ : ∃ v, v = w1.alloc (.cells #[.int .i64 kw, .int .i64 vw] 30) ∧ Box v w1.heap.size 30 #[.int .i64 kw, .int .i64 vw] ∧ Kp (fun _ => False) w1 v := ⟨_, rfl, Box.new w1 _ _, (Kp.refl _ w1).alloc _⟩
    rw [← hw2]
    obtain ⟨gs, hgs⟩ : ∃ gs, w1.heap.size = gs := ⟨_, rfl⟩
    rw [hgs] at b2 ⊢
    have HS : Hid (∀ v, Kp (fun _ => False) w2 v → Box v gs 30 #[.int .i64 kw, .int .i64 vw]) := Lib.hid fun v hv => b2.kp hv (fun h => h)
    have K2 := Lib.hid (K1.out.trans k2)
    clear hw2 b2 k2 hgs
    have e1 : (shB kw vw != shB kw vw) = false := by simp
    have e2 : (capZ kw vw != capZ kw vw) = false := by simp
    have e3 : (fanZ kw vw != fanZ kw vw) = false := by simp
    refine wp_region_quiet (C := fun v => Kp (fun _ => False) (w2) v) (by kernel_rfl) (by kernel_rfl) ((Kp.refl _ _).drew) (Wq.out ?_)
    refine qld (gs) 0 ([.int .i64 kw, .int .i64 vw]) (fun v hv => (HS.out v hv).range) Try.underlying30 (h := ?_)
    refine qtk (hy := fun v hv => by (unfold Oper.quietAt; go_simp; exact (may_any kw vw v).mono (fun e w1 h => ⟨h.1, hv.trans h.2⟩))) (h := ?_)
    refine qld (w.heap.size) 0 ([.int .i64 kw, .int .i64 vw]) (fun v hv => (HRS.out v (K2.out.trans hv)).range) Try.underlying23 (h := ?_)
    refine qtk (hy := fun v hv => by (unfold Oper.quietAt; go_simp; exact (right_any kw vw v).mono (fun e w1 h => ⟨h.1, hv.trans h.2⟩))) (h := ?_)
    refine qtk (h := ?_)
    refine qtk (h := ?_)
    refine qld (gs) 0 ([.int .i64 kw, .int .i64 vw]) (fun v hv => (HS.out v hv).range) Try.underlying30 (h := ?_)
    refine qtk (hy := fun v hv => by (unfold Oper.quietAt; go_simp; exact (cap_any kw vw v).mono (fun e w1 h => ⟨h.1, hv.trans h.2⟩))) (h := ?_)
    refine qld (w.heap.size) 0 ([.int .i64 kw, .int .i64 vw]) (fun v hv => (HRS.out v (K2.out.trans hv)).range) Try.underlying23 (h := ?_)
    refine qtk (hy := fun v hv => by (unfold Oper.quietAt; go_simp; exact (rcap_any kw vw v).mono (fun e w1 h => ⟨h.1, hv.trans h.2⟩))) (h := ?_)
    refine qtk (h := ?_)
    refine qtk (h := ?_)
    refine qtk (h := ?_)
    refine qld (gs) 0 ([.int .i64 kw, .int .i64 vw]) (fun v hv => (HS.out v hv).range) Try.underlying30 (h := ?_)
    refine qtk (hy := fun v hv => by (unfold Oper.quietAt; go_simp; exact (fan_any kw vw v).mono (fun e w1 h => ⟨h.1, hv.trans h.2⟩))) (h := ?_)
    refine qld (w.heap.size) 0 ([.int .i64 kw, .int .i64 vw]) (fun v hv => (HRS.out v (K2.out.trans hv)).range) Try.underlying23 (h := ?_)
    refine qtk (hy := fun v hv => by (unfold Oper.quietAt; go_simp; exact (rfan_any kw vw v).mono (fun e w1 h => ⟨h.1, hv.trans h.2⟩))) (h := ?_)
    refine qtk (h := ?_)
    refine qtk (h := ?_)
    refine Wq.mk (wpQuiet_nil ?_)
    intro w3 hw3
    have K3 := Lib.hid (K2.out.trans hw3)
    have K23 := Lib.hid hw3
    clear hw3 e1 e2 e3
    go_upto_region 6 with fail
    rcases hok : okB kw vw n with _ | _
    · have HOK := Lib.hid hok
      clear hok
      refine wp_region_held_drew (S := fun v => Kp (fun _ => False) w3 v) (by kernel_rfl) ((Kp.refl _ w3).drew) (fun hHeld => ?_)
      refine tk 0 (hy := fun v hv => nexec_load 30 (.tmp 7) rfl gs 0 rfl [.int .i64 kw, .int .i64 vw] _ (HS.out v (K23.out.trans hv)).range Try.underlying30 rfl (by kernel_rfl)) (h := ?_)
      refine tk 1 (hy := fun v hv => nexec_load 27 (.tmp 4) rfl (w.heap.size + 1) 0 rfl (ncs n p).toList _ (HNB.out v (K3.out.trans hv)).range Try.underlying27 rfl (by kernel_rfl)) (h := ?_)
      refine rd 2 (h := fun K hK => ?_)
      go_simp
      refine (ofn_any n p w3.drew (HR.out _ K3.out.drew) hg1 hg2 hg3).mono ?_
      rintro e wq ⟨q, rfl, hq, kq⟩
      have HQ := Lib.hid hq
      have KQ := Lib.hid (((Kp.refl (fun _ => False) w3).drew).trans kq)
      clear hq kq
      go_wp2_with fail
      refine hK.out _ _ (KQ.out) (fun hHeld8 => ?_)
      clear hK K
      try simp only [Act.put, List.setIfInBounds_toArray, List.set_cons_zero, List.set_cons_succ]
      refine rd 3 (h := fun K hK => ?_)
      go_simp
      refine (put_no kw vw n q wq HQ.out HOK.out).mono ?_
      rintro e w4 ⟨rfl, k4⟩
      have K34 := Lib.hid (KQ.out.trans k4)
      have K4 := Lib.hid (K3.out.trans K34.out)
      clear k4
      go_wp2_with fail
      refine hK.out _ _ (K34.out) (fun hHeld9 => ?_)
      clear hK K
      try simp only [Act.put, List.setIfInBounds_toArray, List.set_cons_zero, List.set_cons_succ]
      refine tk 4 (h := ?_)
      refine tk 5 (h := ?_)
      refine tk 6 (h := ?_)
      refine tk 7 (h := ?_)
      refine tk 8 (h := ?_)
      refine wpAnyH_done (by kernel_rfl) ?_ _
      obtain ⟨y0, y1, y2, y3, y4, y5⟩ := HF.out w4 K4.out
      go_wp2_with fail
      refine (rmay_any kw vw n p _ (HR.out w4 K4.out) hg1).mono ?_
      rintro e w5 ⟨rfl, k5⟩
      have K5 := Lib.hid (K4.out.trans k5)
      clear k5 y0 y1 y2 y3 y4 y5
      rw [HOK.out]
      go_wp2_with fail
      refine (wakes_true _).mono ?_
      rintro e w6 ⟨rfl, k6⟩
      have K6 := Lib.hid (K5.out.trans k6)
      clear k6
      go_wp2_with fail
      go_ret
      exact ⟨rfl, K0.out.trans K6.out⟩
    · have HOK := Lib.hid hok
      clear hok
      refine wp_region_held_drew (S := fun v => Kp (fun _ => False) w3 v) (by kernel_rfl) ((Kp.refl _ w3).drew) (fun hHeld => ?_)
      refine tk 0 (hy := fun v hv => nexec_load 30 (.tmp 7) rfl gs 0 rfl [.int .i64 kw, .int .i64 vw] _ (HS.out v (K23.out.trans hv)).range Try.underlying30 rfl (by kernel_rfl)) (h := ?_)
      refine tk 1 (hy := fun v hv => nexec_load 27 (.tmp 4) rfl (w.heap.size + 1) 0 rfl (ncs n p).toList _ (HNB.out v (K3.out.trans hv)).range Try.underlying27 rfl (by kernel_rfl)) (h := ?_)
      refine rd 2 (h := fun K hK => ?_)
      go_simp
      refine (ofn_any n p w3.drew (HR.out _ K3.out.drew) hg1 hg2 hg3).mono ?_
      rintro e wq ⟨q, rfl, hq, kq⟩
      have HQ := Lib.hid hq
      have KQ := Lib.hid (((Kp.refl (fun _ => False) w3).drew).trans kq)
      clear hq kq
      go_wp2_with fail
      refine hK.out _ _ (KQ.out) (fun hHeld10 => ?_)
      clear hK K
      try simp only [Act.put, List.setIfInBounds_toArray, List.set_cons_zero, List.set_cons_succ]
      refine rd 3 (h := fun K hK => ?_)
      go_simp
      refine (put_yes kw vw n q wq HQ.out HOK.out).mono ?_
      rintro e w4 ⟨g, cg, rfl, hc1, hc2, hrd, _, k4⟩
      have HRD := Lib.hid hrd
      clear hrd
      have K34 := Lib.hid (KQ.out.trans k4)
      have K4 := Lib.hid (K3.out.trans K34.out)
      clear k4
      go_wp2_with fail
      refine hK.out _ _ (K34.out) (fun hHeld11 => ?_)
      clear hK K
      try simp only [Act.put, List.setIfInBounds_toArray, List.set_cons_zero, List.set_cons_succ]
      refine tk 4 (h := ?_)
      refine tk 5 (h := ?_)
      refine tk 6 (h := ?_)
      refine tk 7 (h := ?_)
      refine tk 8 (h := ?_)
      refine wpAnyH_done (by kernel_rfl) ?_ _
      obtain ⟨y0, y1, y2, y3, y4, y5⟩ := HF.out w4 K4.out
      go_wp2_with fail
      refine (rmay_any kw vw n p _ (HR.out w4 K4.out) hg1).mono ?_
      rintro e w5 ⟨rfl, k5⟩
      have K5 := Lib.hid (K4.out.trans k5)
      have HRD5 := Lib.hid (rd_still HRD.out k5)
      clear k5 y0 y1 y2 y3 y4 y5
      rw [HOK.out]
      obtain ⟨y0, y1, y2, y3, y4, y5⟩ := HF.out w5 K5.out
      clear y0 y1 y2 y4 y5
      go_upto_region 11 with fail
      go_loop [12, 10, 11] (fun sv sl sm => ∃ k : Nat, k ≤ n.keys.length ∧ sv = .int .i64 k ∧ sl = .int .i64 (lessN key (n.keys.take k) : Nat) ∧ sm = .int .i64 (moreN key (n.keys.take k) : Nat)) (fun sv _ _ => n.keys.length - (Go.RowKit.intOf sv).toNat)
      case atStart => exact ⟨0, Nat.zero_le _, rfl, rfl, rfl⟩
      case round =>
        obtain ⟨k, hk, rfl, rfl, rfl⟩ := hrel
        by_cases hlt : k < n.keys.length
        · obtain ⟨x, hx⟩ : ∃ x, n.keys[k]? = some x := ⟨_, List.getElem?_eq_getElem hlt⟩
          obtain ⟨b, o, hA, y⟩ := (HR.out w5 K5.out).k.at (sts_get hx)
          rw [hA] at y3
          have hxk : n.keys[k] = x := by rw [List.getElem?_eq_getElem hlt] at hx; cases hx; rfl
          have HL := Lib.hid (countP_snoc (fun k => bls k key) n.keys k hlt)
          have HM := Lib.hid (countP_snoc (fun k => ble k key) n.keys k hlt)
          have hcl := countP_take_le (fun k => bls k key) n.keys k
          have hcm := countP_take_le (fun k => ble k key) n.keys k
          obtain ⟨ql, hql⟩ : ∃ q, q = lessN key (n.keys.take k) := ⟨_, rfl⟩
          obtain ⟨qm, hqm⟩ : ∃ q, q = moreN key (n.keys.take k) := ⟨_, rfl⟩
          have hql' : ql ≤ k := by rw [hql]; exact hcl
          have hqm' : qm ≤ k := by rw [hqm]; exact hcm
          rw [← hql, ← hqm]
          have HQL := Lib.hid hql
          have HQM := Lib.hid hqm
          have HXK := Lib.hid hxk
          have hdl : Go.Op.bytesLess x.toList key.toList = bls x key := rfl
          have hdm : (bls x key || (x.toList == key.toList)) = ble x key := rfl
          clear hx hA hql hqm hxk hcl hcm
          rcases hb : bls x key with _ | _
          · rw [hb] at hdl hdm
            rcases hm : ble x key with _ | _
            · rw [hm] at hdm
              rw [Bool.false_or] at hdm
              have HB1 := Lib.hid hb
              have HB2 := Lib.hid hm
              clear hb hm
              go_wp2_with fail
              go_round
              case rel =>
                refine ⟨k + 1, by omega, by go_num, ?_, ?_⟩
                · have : lessN key (n.keys.take (k + 1)) = ql := by
                    unfold lessN
                    rw [HL.out, HXK.out, HB1.out, HQL.out]
                    rfl
                  rw [this]
                · have : moreN key (n.keys.take (k + 1)) = qm := by
                    unfold moreN
                    rw [HM.out, HXK.out, HB2.out, HQM.out]
                    rfl
                  rw [this]
              case measure => simp [Go.RowKit.intOf]; omega
            · rw [hm] at hdm
              rw [Bool.false_or] at hdm
              have HB1 := Lib.hid hb
              have HB2 := Lib.hid hm
              clear hb hm
              go_wp2_with fail
              go_round
              case rel =>
                refine ⟨k + 1, by omega, by go_num, ?_, ?_⟩
                · have : lessN key (n.keys.take (k + 1)) = ql := by
                    unfold lessN
                    rw [HL.out, HXK.out, HB1.out, HQL.out]
                    rfl
                  rw [this]
                · have : moreN key (n.keys.take (k + 1)) = qm + 1 := by
                    unfold moreN
                    rw [HM.out, HXK.out, HB2.out, HQM.out]
                    rfl
                  rw [this]
                  go_num
              case measure => simp [Go.RowKit.intOf]; omega
          · have hm : ble x key = true := by unfold ble; rw [hb]; rfl
            rw [hb] at hdl hdm
            clear hdm
            have HB1 := Lib.hid hb
            have HB2 := Lib.hid hm
            clear hb hm
            go_wp2_with fail
            go_round
            case rel =>
              refine ⟨k + 1, by omega, by go_num, ?_, ?_⟩
              · have : lessN key (n.keys.take (k + 1)) = ql + 1 := by
                  unfold lessN
                  rw [HL.out, HXK.out, HB1.out, HQL.out]
                  rfl
                rw [this]
                go_num
              · have : moreN key (n.keys.take (k + 1)) = qm + 1 := by
                  unfold moreN
                  rw [HM.out, HXK.out, HB2.out, HQM.out]
                  rfl
                rw [this]
                go_num
            case measure => simp [Go.RowKit.intOf]; omega
        · obtain rfl : k = n.keys.length := by omega
          rw [List.take_length]
          clear hlt hk
          obtain ⟨z0, z1, z2, z3, z4, z5⟩ := HF.out w5 K5.out
          clear z0 z1
          have HIS := Lib.hid (is_more key (okB_ky HOK.out))
          have HLN : Hid (lessN key n.keys ≤ n.keys.length) := Lib.hid List.countP_le_length
          have HMN : Hid (moreN key n.keys ≤ n.keys.length) := Lib.hid List.countP_le_length
          obtain ⟨Lz, hLz⟩ : ∃ q, q = lessN key n.keys := ⟨_, rfl⟩
          obtain ⟨Mz, hMz⟩ : ∃ q, q = moreN key n.keys := ⟨_, rfl⟩
          rw [← hLz, ← hMz]
          have HLZ : Hid (lessN key n.keys = Lz) := Lib.hid hLz.symm
          have HMZ : Hid (moreN key n.keys = Mz) := Lib.hid hMz.symm
          clear hLz hMz
          go_wp2_with fail
          refine (ofn_any n p _ (HR.out w5 K5.out) hg1 hg2 hg3).mono ?_
          rintro e w6 ⟨q6, rfl, hq6, k6⟩
          have HQ6 := Lib.hid hq6
          have K6 := Lib.hid (K5.out.trans k6)
          have HRD6 := Lib.hid (rd_still HRD5.out k6)
          clear hq6 k6 y3 z2 z3 z4 z5
          go_wp2_with fail
          have hfd := find_any key n q6 _ HQ6.out
          rw [HLZ.out, HIS.out, HLZ.out, HMZ.out] at hfd
          refine hfd.mono ?_
          clear hfd
          rintro e w7 ⟨rfl, k7⟩
          have K7 := Lib.hid (K6.out.trans k7)
          have HRD7 := Lib.hid (rd_still HRD6.out k7)
          clear k7
          go_upto_region 18 with fail
          have HCV : Hid (∀ v, Kp (fun _ => False) w7 v → (convert 32 9 (.slice (some ⟨g, 0, none⟩) 512 cg)).run Try.prog v = .ok (.string ⟨(pageL n).toArray⟩) v) := Lib.hid fun v hv => by
            have := (rd_still HRD7.out hv).text (P := Try.prog) 32 9 5 cg Try.underlying32 Try.underlying5 Try.underlying9
            rwa [page_len HOK.out] at this
          refine wp_region_held_drew (S := fun v => Kp (fun _ => False) w7 v) (by kernel_rfl) ((Kp.refl _ w7).drew) (fun hHeld => ?_)
          refine tk 0 (h := ?_)
          refine tk 1 (hy := fun v hv => by (have hcv := HCV.out v hv; go_simp; with_reducible rfl)) (h := ?_)
          refine tk 2 (hy := fun v hv => nexec_load 23 (.tmp 3) rfl w.heap.size 0 rfl [.int .i64 kw, .int .i64 vw] _ (HRS.out v (K7.out.trans hv)).range Try.underlying23 rfl (by kernel_rfl)) (h := ?_)
          refine tk 3 (hy := fun v hv => nexec_load 27 (.tmp 4) rfl (w.heap.size + 1) 0 rfl (ncs n p).toList _ (HNB.out v (K7.out.trans hv)).range Try.underlying27 rfl (by kernel_rfl)) (h := ?_)
          refine rd 4 (h := fun K hK => ?_)
          go_simp
          refine (rput_any kw vw n p w7.drew (HR.out _ K7.out.drew) HOK.out).mono ?_
          rintro e w8 ⟨rfl, k8⟩
          have K78 := Lib.hid (((Kp.refl (fun _ => False) w7).drew).trans k8)
          clear k8
          go_wp2_with fail
          refine hK.out _ _ (K78.out) (fun hHeld12 => ?_)
          clear hK K
          try simp only [Act.put, List.setIfInBounds_toArray, List.set_cons_zero, List.set_cons_succ]
          refine tk 5 (h := ?_)
          refine tk 6 (h := ?_)
          refine tk 7 (h := ?_)
          refine tk 8 (h := ?_)
          refine tk 9 (h := ?_)
          refine tk 10 (h := ?_)
          refine tk 11 (h := ?_)
          refine tk 12 (h := ?_)
          refine tk 13 (h := ?_)
          refine tk 14 (h := ?_)
          refine tk 15 (h := ?_)
          refine tk 16 (h := ?_)
          refine tk 17 (h := ?_)
          refine tk 18 (h := ?_)
          refine tk 19 (h := ?_)
          refine tk 20 (h := ?_)
          refine tk 21 (h := ?_)
          refine tk 22 (h := ?_)
          refine tk 23 (hy := fun v hv => nexec_load 27 (.tmp 4) rfl (w.heap.size + 1) 0 rfl (ncs n p).toList _ (HNB.out v (K7.out.trans hv)).range Try.underlying27 rfl (by kernel_rfl)) (h := ?_)
          refine tk 25 (h := ?_)
          refine tk 27 (h := ?_)
          refine rd 24 (h := fun K hK => ?_)
          go_simp
          refine (ofn_any n p w8 (HR.out _ (K7.out.trans K78.out)) hg1 hg2 hg3).mono ?_
          rintro e w9 ⟨q9, rfl, hq9, k9⟩
          have HQ9 := Lib.hid hq9
          have K79 := Lib.hid (K78.out.trans k9)
          clear hq9 k9
          go_wp2_with fail
          refine hK.out _ _ (K79.out) (fun hHeld13 => ?_)
          clear hK K
          try simp only [Act.put, List.setIfInBounds_toArray, List.set_cons_zero, List.set_cons_succ]
          refine rd 26 (h := fun K hK => ?_)
          go_simp
          have hdn := down_any key n q9 w9 HQ9.out
          rw [HMZ.out] at hdn
          refine hdn.mono ?_
          clear hdn
          rintro e wA ⟨rfl, kA⟩
          have K7A := Lib.hid (K79.out.trans kA)
          clear kA
          go_wp2_with fail
          refine hK.out _ _ (K7A.out) (fun hHeld14 => ?_)
          clear hK K
          try simp only [Act.put, List.setIfInBounds_toArray, List.set_cons_zero, List.set_cons_succ]
          refine tk 28 (h := ?_)
          refine tk 29 (h := ?_)
          refine tk 30 (h := ?_)
          refine rd 31 (h := fun K hK => ?_)
          go_simp
          refine (wakes_true wA).mono ?_
          rintro e wB ⟨rfl, kB⟩
          have K7B := Lib.hid (K7A.out.trans kB)
          clear kB
          go_wp2_with fail
          refine hK.out _ _ (K7B.out) (fun hHeld15 => ?_)
          clear hK K
          try simp only [Act.put, List.setIfInBounds_toArray, List.set_cons_zero, List.set_cons_succ]
          refine tk 32 (h := ?_)
          refine tk 33 (h := ?_)
          refine wpAnyH_done (by kernel_rfl) ?_ _
          go_wp2_with fail
          go_ret
          exact ⟨rfl, K0.out.trans (K7.out.trans K7B.out)⟩
  · clear hg
    go_wp2_with fail
    refine (wakes_true _).mono ?_
    rintro e w2 ⟨rfl, k2⟩
    have K2 := Lib.hid k2
    clear k2
    go_wp2_with fail
    go_ret
    exact ⟨rfl, K0.out.trans (K1.out.trans K2.out)⟩
end Go.Proofs.Ytjapnkpicefadaa
