/- NodeBack: nodes and pages answer each other. No condition. -/
import Derived.Test.YtjapnkpicefadaaNdOrd
import Derived.Test.YtjapnkpicefadaaNdWake
import Derived.Test.YtjapnkpicefadaaNdOf
namespace Go.Proofs.Ytjapnkpicefadaa
open Go.RowKit

def BackEnd (w : World) (e : Ending) (w' : World) : Prop := e = .returned (.bool true) ∧ Kp (fun _ => False) w w'
set_option maxRecDepth 100000 in
set_option maxHeartbeats 16000000 in
theorem back_any (kw vw : Int) (n : Nd) (p : Pl) (A : Option Addr) (c : Nat) (l : List UInt8) (w : World) (h : NdR w n p) (hr : Rd w A l) (hlm : l.length ≤ maxLen) :
    Calls Try.prog 4 #[.agg #[.int .i64 kw, .int .i64 vw], .agg (ncs n p), .slice A l.length c] w (BackEnd w) := by
  obtain ⟨W, hW, b0, b1, k0⟩ : ∃ W, W = (w.alloc (.cells #[.int .i64 kw, .int .i64 vw] 30)).alloc (.cells (ncs n p) 27) ∧ Box W w.heap.size 30 #[.int .i64 kw, .int .i64 vw] ∧ Box W (w.heap.size + 1) 27 (ncs n p) ∧ Kp (fun _ => False) w W := ⟨_, rfl, (Box.new w _ _).alloc _, by simpa using Box.new (w.alloc (.cells #[.int .i64 kw, .int .i64 vw] 30)) 27 (ncs n p), ((Kp.refl _ w).alloc _).alloc _⟩
  have HW := Lib.hid hW
  have K0 := Lib.hid k0
  have HF : Hid (∀ v, Kp (fun _ => False) W v → v.cell? ⟨w.heap.size, 0, none⟩ = some (.int .i64 kw) ∧ v.cell? ⟨w.heap.size, 1, none⟩ = some (.int .i64 vw) ∧ v.cell? ⟨w.heap.size + 1, 0, none⟩ = some (.bool n.leaf) ∧ v.cell? ⟨w.heap.size + 1, 1, none⟩ = some (.slice p.k n.keys.length p.ck) ∧ v.cell? ⟨w.heap.size + 1, 2, none⟩ = some (.slice p.v n.vals.length p.cv) ∧ v.cell? ⟨w.heap.size + 1, 3, none⟩ = some (.slice p.c n.kids.length p.cc)) := Lib.hid fun v hv =>
    ⟨(b0.kp hv (fun h => h)).cell 0, (b0.kp hv (fun h => h)).cell 1, (b1.kp hv (fun h => h)).cell 0, (b1.kp hv (fun h => h)).cell 1, (b1.kp hv (fun h => h)).cell 2, (b1.kp hv (fun h => h)).cell 3⟩
  have HS : Hid (∀ v, Kp (fun _ => False) W v → Box v w.heap.size 30 #[.int .i64 kw, .int .i64 vw]) := Lib.hid fun v hv => b0.kp hv (fun h => h)
  have HNB : Hid (∀ v, Kp (fun _ => False) W v → Box v (w.heap.size + 1) 27 (ncs n p)) := Lib.hid fun v hv => b1.kp hv (fun h => h)
  have HR : Hid (∀ v, Kp (fun _ => False) W v → NdR v n p) := Lib.hid fun v hv => h.still (k0.trans hv)
  have HRB : Hid (∀ v, Kp (fun _ => False) W v → Rd v A l) := Lib.hid fun v hv => rd_still hr (k0.trans hv)
  clear hW b0 b1 k0 h hr
  unfold maxLen at hlm
  obtain ⟨y0, y1, y2, y3, y4, y5⟩ := HF.out W (Kp.refl _ _)
  go_enter Try.func4, Try.ntmps4
  go_upto_region 1 with fail
  rw [← HW.out]
  go_wp2_with fail
  refine (ngreat_any n p _ (HR.out W (Kp.refl _ _))).mono ?_
  rintro e w1 ⟨rfl, k1⟩
  have K1 := Lib.hid k1
  clear k1 y0 y1 y2 y3 y4 y5
  rcases hg : gtB n with _ | _
  · obtain ⟨hg1, hg2, hg3, hg4, hg5⟩ := gtB_no hg
    have HG4 := Lib.hid hg4
    have HG5 := Lib.hid hg5
    clear hg hg4 hg5
    by_cases hl6 : (600 : Int) < l.length
    · go_wp2_with fail
      refine (wakes_true _).mono ?_
      rintro e w2 ⟨rfl, k2⟩
      have K2 := Lib.hid k2
      clear k2
      go_wp2_with fail
      go_ret
      exact ⟨rfl, K0.out.trans (K1.out.trans K2.out)⟩
    · have hl6' : l.length ≤ 600 := by omega
      go_upto_region 3 with fail
      clear hl6
      rcases hok : okB kw vw n with _ | _
      · have HOK := Lib.hid hok
        clear hok
        have K1 := K1
        refine wp_region_held_drew (S := fun v => Kp (fun _ => False) W v) (by kernel_rfl) (K1.out.drew) (fun hHeld => ?_)
        refine tk 0 (hy := fun v hv => nexec_load 30 (.tmp 3) rfl w.heap.size 0 rfl [.int .i64 kw, .int .i64 vw] _ (HS.out v hv).range Try.underlying30 rfl (by kernel_rfl)) (h := ?_)
        refine tk 1 (hy := fun v hv => nexec_load 27 (.tmp 4) rfl (w.heap.size + 1) 0 rfl (ncs n p).toList _ (HNB.out v hv).range Try.underlying27 rfl (by kernel_rfl)) (h := ?_)
        refine rd 2 (h := fun K hK => ?_)
        go_simp
        refine (ofn_any n p w1.drew (HR.out _ K1.out.drew) hg1 hg2 hg3).mono ?_
        rintro e w3 ⟨q, rfl, hq, k3⟩
        have HQ := Lib.hid hq
        have K3 := Lib.hid (K1.out.drew.trans k3)
        clear hq k3
        go_wp2_with fail
        refine hK.out _ _ (K3.out) (fun hHeld8 => ?_)
        clear hK K
        try simp only [Act.put, List.setIfInBounds_toArray, List.set_cons_zero, List.set_cons_succ]
        refine rd 3 (h := fun K hK => ?_)
        go_simp
        refine (put_no kw vw n q w3 HQ.out HOK.out).mono ?_
        rintro e w4 ⟨rfl, k4⟩
        have K4 := Lib.hid (K3.out.trans k4)
        clear k4
        go_wp2_with fail
        refine hK.out _ _ (K4.out) (fun hHeld9 => ?_)
        clear hK K
        try simp only [Act.put, List.setIfInBounds_toArray, List.set_cons_zero, List.set_cons_succ]
        refine tk 4 (h := ?_)
        refine tk 5 (h := ?_)
        refine tk 6 (h := ?_)
        refine tk 7 (h := ?_)
        refine tk 8 (h := ?_)
        refine wpAnyH_done (by kernel_rfl) ?_ _
        obtain ⟨y0, y1, y2, y3, y4, y5⟩ := HF.out w4 K4.out
        go_upto_region 14 with fail
        obtain ⟨wz, hwz⟩ : ∃ v, v = w4 := ⟨_, rfl⟩
        rw [← hwz] at K4 ⊢
        clear hwz y0 y1 y2 y3 y4 y5
        have KZ := K4
        obtain ⟨y0, y1, y2, y3, y4, y5⟩ := HF.out wz KZ.out
        clear y2 y3 y4 y5
        go_wp2_with fail
        refine (take_any kw vw A l.length c l _ rfl (HRB.out wz KZ.out) (by omega)).mono ?_
        rcases takeS_cases kw vw l with ⟨hsh, hts⟩ | ⟨hsh, hts⟩ | ⟨m2, hsh, hts, hokm, hpm⟩
        · rintro e wc ⟨m2, he, _, kc⟩
          rw [hts] at he
          obtain rfl : e = .returned (.tuple #[.agg #[.bool false, .slice m2.k 0 m2.ck, .slice m2.v 0 m2.cv, .slice m2.c 0 m2.cc], .int .i64 2]) := he
          have KC := Lib.hid (KZ.out.trans kc)
          have HSH := Lib.hid hsh
          clear kc hts hsh y0 y1
          go_upto_region 15 with fail
          obtain ⟨wd, hwd, bd, kd⟩ : ∃ v, v = wc.alloc (.cells #[.bool false, .slice m2.k 0 m2.ck, .slice m2.v 0 m2.cv, .slice m2.c 0 m2.cc] 36) ∧ Box v wc.heap.size 36 #[.bool false, .slice m2.k 0 m2.ck, .slice m2.v 0 m2.cv, .slice m2.c 0 m2.cc] ∧ Kp (fun _ => False) wc v := ⟨_, rfl, Box.new wc _ _, (Kp.refl _ wc).alloc _⟩
          rw [← hwd]
          obtain ⟨gd, hgd⟩ : ∃ gd, wc.heap.size = gd := ⟨_, rfl⟩
          rw [hgd] at bd ⊢
          have HDB : Hid (∀ v, Kp (fun _ => False) wd v → Box v gd 36 #[.bool false, .slice m2.k 0 m2.ck, .slice m2.v 0 m2.cv, .slice m2.c 0 m2.cc]) := Lib.hid fun v hv => bd.kp hv (fun h => h)
          have KD := Lib.hid (KC.out.trans kd)
          have kd' := kd
          clear hwd bd hgd kd'
          clear kd
          obtain ⟨y0, y1, y2, y3, y4, y5⟩ := HF.out wd KD.out
          clear y2 y3 y4 y5
          go_wp2_with fail
          refine (may_any kw vw _).mono ?_
          rintro e we ⟨rfl, ke⟩
          have KE := Lib.hid (KD.out.trans ke)
          have z1 : we.cell? ⟨gd, 1, none⟩ = some (.slice m2.k 0 m2.ck) := (HDB.out we ke).cell 1
          have z3 : we.cell? ⟨gd, 3, none⟩ = some (.slice m2.c 0 m2.cc) := (HDB.out we ke).cell 3
          clear ke y0 y1
          rw [HSH.out]
          go_wp2_with fail
          refine (wakes_true _).mono ?_
          rintro e wf ⟨rfl, kf⟩
          have KF := Lib.hid (KE.out.trans kf)
          clear kf z1 z3
          go_wp2_with fail
          go_ret
          exact ⟨rfl, K0.out.trans KF.out⟩
        · rintro e wc ⟨m2, he, _, kc⟩
          rw [hts] at he
          obtain rfl : e = .returned (.tuple #[.agg #[.bool false, .slice m2.k 0 m2.ck, .slice m2.v 0 m2.cv, .slice m2.c 0 m2.cc], .int .i64 3]) := he
          have KC := Lib.hid (KZ.out.trans kc)
          have HSH := Lib.hid hsh
          clear kc hts hsh y0 y1
          go_upto_region 15 with fail
          obtain ⟨wd, hwd, bd, kd⟩ : ∃ v, v = wc.alloc (.cells #[.bool false, .slice m2.k 0 m2.ck, .slice m2.v 0 m2.cv, .slice m2.c 0 m2.cc] 36) ∧ Box v wc.heap.size 36 #[.bool false, .slice m2.k 0 m2.ck, .slice m2.v 0 m2.cv, .slice m2.c 0 m2.cc] ∧ Kp (fun _ => False) wc v := ⟨_, rfl, Box.new wc _ _, (Kp.refl _ wc).alloc _⟩
          rw [← hwd]
          obtain ⟨gd, hgd⟩ : ∃ gd, wc.heap.size = gd := ⟨_, rfl⟩
          rw [hgd] at bd ⊢
          have HDB : Hid (∀ v, Kp (fun _ => False) wd v → Box v gd 36 #[.bool false, .slice m2.k 0 m2.ck, .slice m2.v 0 m2.cv, .slice m2.c 0 m2.cc]) := Lib.hid fun v hv => bd.kp hv (fun h => h)
          have KD := Lib.hid (KC.out.trans kd)
          have kd' := kd
          clear hwd bd hgd kd'
          clear kd
          obtain ⟨y0, y1, y2, y3, y4, y5⟩ := HF.out wd KD.out
          clear y2 y3 y4 y5
          go_wp2_with fail
          refine (may_any kw vw _).mono ?_
          rintro e we ⟨rfl, ke⟩
          have KE := Lib.hid (KD.out.trans ke)
          have z1 : we.cell? ⟨gd, 1, none⟩ = some (.slice m2.k 0 m2.ck) := (HDB.out we ke).cell 1
          have z3 : we.cell? ⟨gd, 3, none⟩ = some (.slice m2.c 0 m2.cc) := (HDB.out we ke).cell 3
          clear ke y0 y1
          rw [HSH.out]
          go_wp2_with fail
          refine (wakes_true _).mono ?_
          rintro e wf ⟨rfl, kf⟩
          have KF := Lib.hid (KE.out.trans kf)
          clear kf z1 z3
          go_wp2_with fail
          go_ret
          exact ⟨rfl, K0.out.trans KF.out⟩
        · rintro e wc ⟨q3, he, hm3, kc⟩
          rw [hts] at he hm3
          obtain rfl : e = .returned (.tuple #[.agg #[.bool m2.leaf, .slice q3.k m2.keys.length q3.ck, .slice q3.v m2.vals.length q3.cv, .slice q3.c m2.kids.length q3.cc], .int .i64 0]) := he
          have KC := Lib.hid (KZ.out.trans kc)
          have HOKM := Lib.hid hokm
          have HPM := Lib.hid hpm
          have HM3 := Lib.hid hm3
          clear kc hts hsh y0 y1 hokm hpm hm3
          go_upto_region 15 with fail
          obtain ⟨wd, hwd, bd, kd⟩ : ∃ v, v = wc.alloc (.cells #[.bool m2.leaf, .slice q3.k m2.keys.length q3.ck, .slice q3.v m2.vals.length q3.cv, .slice q3.c m2.kids.length q3.cc] 36) ∧ Box v wc.heap.size 36 #[.bool m2.leaf, .slice q3.k m2.keys.length q3.ck, .slice q3.v m2.vals.length q3.cv, .slice q3.c m2.kids.length q3.cc] ∧ Kp (fun _ => False) wc v := ⟨_, rfl, Box.new wc _ _, (Kp.refl _ wc).alloc _⟩
          rw [← hwd]
          obtain ⟨gd, hgd⟩ : ∃ gd, wc.heap.size = gd := ⟨_, rfl⟩
          rw [hgd] at bd ⊢
          have HDB : Hid (∀ v, Kp (fun _ => False) wd v → Box v gd 36 #[.bool m2.leaf, .slice q3.k m2.keys.length q3.ck, .slice q3.v m2.vals.length q3.cv, .slice q3.c m2.kids.length q3.cc]) := Lib.hid fun v hv => bd.kp hv (fun h => h)
          have KD := Lib.hid (KC.out.trans kd)
          have kd' := kd
          clear hwd bd hgd kd'
          have HM4 := Lib.hid (HM3.out.still kd)
          clear kd
          obtain ⟨y0, y1, y2, y3, y4, y5⟩ := HF.out wd KD.out
          clear y2 y3 y4 y5
          have z0 : wd.cell? ⟨gd, 0, none⟩ = some (.bool m2.leaf) := (HDB.out wd (Kp.refl _ _)).cell 0
          have z1 : wd.cell? ⟨gd, 1, none⟩ = some (.slice q3.k m2.keys.length q3.ck) := (HDB.out wd (Kp.refl _ _)).cell 1
          have z2 : wd.cell? ⟨gd, 2, none⟩ = some (.slice q3.v m2.vals.length q3.cv) := (HDB.out wd (Kp.refl _ _)).cell 2
          have z3 : wd.cell? ⟨gd, 3, none⟩ = some (.slice q3.c m2.kids.length q3.cc) := (HDB.out wd (Kp.refl _ _)).cell 3
          go_wp2_with fail
          refine (put_yes kw vw m2 q3 _ HM4.out HOKM.out).mono ?_
          rintro e we ⟨g9, c9, rfl, hc3, hc4, hrd9, _, ke⟩
          have KE := Lib.hid (KD.out.trans ke)
          have hcv1 := hrd9.text (P := Try.prog) 32 9 5 c9 Try.underlying32 Try.underlying5 Try.underlying9
          rw [page_len HOKM.out, HPM.out] at hcv1
          have hcv2 := (HRB.out we KE.out).text (P := Try.prog) 32 9 5 c Try.underlying32 Try.underlying5 Try.underlying9
          clear ke y0 y1 z0 z1 z2 z3 hrd9 hc3 hc4
          go_wp2_with fail
          refine (wakes_true _).mono ?_
          rintro e wf ⟨rfl, kf⟩
          have KF := Lib.hid (KE.out.trans kf)
          clear kf hcv1 hcv2
          go_wp2_with fail
          go_ret
          exact ⟨rfl, K0.out.trans KF.out⟩
      · have HOK := Lib.hid hok
        clear hok
        have K1 := K1
        refine wp_region_held_drew (S := fun v => Kp (fun _ => False) W v) (by kernel_rfl) (K1.out.drew) (fun hHeld => ?_)
        refine tk 0 (hy := fun v hv => nexec_load 30 (.tmp 3) rfl w.heap.size 0 rfl [.int .i64 kw, .int .i64 vw] _ (HS.out v hv).range Try.underlying30 rfl (by kernel_rfl)) (h := ?_)
        refine tk 1 (hy := fun v hv => nexec_load 27 (.tmp 4) rfl (w.heap.size + 1) 0 rfl (ncs n p).toList _ (HNB.out v hv).range Try.underlying27 rfl (by kernel_rfl)) (h := ?_)
        refine rd 2 (h := fun K hK => ?_)
        go_simp
        refine (ofn_any n p w1.drew (HR.out _ K1.out.drew) hg1 hg2 hg3).mono ?_
        rintro e w3 ⟨q, rfl, hq, k3⟩
        have HQ := Lib.hid hq
        have K3 := Lib.hid (K1.out.drew.trans k3)
        clear hq k3
        go_wp2_with fail
        refine hK.out _ _ (K3.out) (fun hHeld10 => ?_)
        clear hK K
        try simp only [Act.put, List.setIfInBounds_toArray, List.set_cons_zero, List.set_cons_succ]
        refine rd 3 (h := fun K hK => ?_)
        go_simp
        refine (put_yes kw vw n q w3 HQ.out HOK.out).mono ?_
        rintro e w4 ⟨g, cg, rfl, hc1, hc2, hrd, _, k4⟩
        have HRD := Lib.hid hrd
        clear hrd
        have K4 := Lib.hid (K3.out.trans k4)
        clear k4
        go_wp2_with fail
        refine hK.out _ _ (K4.out) (fun hHeld11 => ?_)
        clear hK K
        try simp only [Act.put, List.setIfInBounds_toArray, List.set_cons_zero, List.set_cons_succ]
        refine tk 4 (h := ?_)
        refine tk 5 (h := ?_)
        refine tk 6 (h := ?_)
        refine tk 7 (h := ?_)
        refine tk 8 (h := ?_)
        refine wpAnyH_done (by kernel_rfl) ?_ _
        obtain ⟨y0, y1, y2, y3, y4, y5⟩ := HF.out w4 K4.out
        clear y2 y3 y4 y5
        go_wp2_with fail
        refine (take_any kw vw (some ⟨g, 0, none⟩) 512 cg (pageL n) _ (page_len HOK.out) HRD.out (by rw [page_len HOK.out]; decide)).mono ?_
        rintro e w5 ⟨m, he, hm, k5⟩
        rw [take_page HOK.out] at he hm
        obtain rfl : e = .returned (.tuple #[.agg #[.bool n.leaf, .slice m.k n.keys.length m.ck, .slice m.v n.vals.length m.cv, .slice m.c n.kids.length m.cc], .int .i64 0]) := he
        have HM := Lib.hid hm
        have K5 := Lib.hid (K4.out.trans k5)
        clear k5 hm y0 y1
        go_upto_region 6 with fail
        obtain ⟨w6, hw6, b6, k6⟩ : ∃ v, v = w5.alloc (.cells #[.bool n.leaf, .slice m.k n.keys.length m.ck, .slice m.v n.vals.length m.cv, .slice m.c n.kids.length m.cc] 36) ∧ Box v w5.heap.size 36 #[.bool n.leaf, .slice m.k n.keys.length m.ck, .slice m.v n.vals.length m.cv, .slice m.c n.kids.length m.cc] ∧ Kp (fun _ => False) w5 v := ⟨_, rfl, Box.new w5 _ _, (Kp.refl _ w5).alloc _⟩
        rw [← hw6]
        obtain ⟨gm, hgm⟩ : ∃ gm, w5.heap.size = gm := ⟨_, rfl⟩
        rw [hgm] at b6 ⊢
        have HMB : Hid (∀ v, Kp (fun _ => False) w6 v → Box v gm 36 (ncs n m)) := Lib.hid fun v hv => b6.kp hv (fun h => h)
        have HM6 : Hid (∀ v, Kp (fun _ => False) w6 v → NdR v n m) := Lib.hid fun v hv => HM.out.still (k6.trans hv)
        have K6 := Lib.hid (K5.out.trans k6)
        clear hw6 b6 k6 hgm
        refine wp_region_held_drew (S := fun v => Kp (fun _ => False) w6 v) (by kernel_rfl) ((Kp.refl _ w6).drew) (fun hHeld => ?_)
        refine tk 0 (h := ?_)
        refine tk 1 (h := ?_)
        refine tk 2 (h := ?_)
        refine tk 3 (hy := fun v hv => nexec_load 36 (.tmp 9) rfl gm 0 rfl (ncs n m).toList _ (HMB.out v hv).range Try.underlying36 rfl (by kernel_rfl)) (h := ?_)
        refine tk 4 (hy := fun v hv => nexec_load 27 (.tmp 4) rfl (w.heap.size + 1) 0 rfl (ncs n p).toList _ (HNB.out v (K6.out.trans hv)).range Try.underlying27 rfl (by kernel_rfl)) (h := ?_)
        refine rd 5 (h := fun K hK => ?_)
        go_simp
        refine (ofn_any n p w6.drew (HR.out _ K6.out.drew) hg1 hg2 hg3).mono ?_
        rintro e w7 ⟨q2, rfl, hq, k7⟩
        have HQ7 := Lib.hid hq
        have K7 := Lib.hid (((Kp.refl (fun _ => False) w6).drew).trans k7)
        clear hq k7
        go_wp2_with fail
        refine hK.out _ _ (K7.out) (fun hHeld12 => ?_)
        clear hK K
        try simp only [Act.put, List.setIfInBounds_toArray, List.set_cons_zero, List.set_cons_succ]
        refine rd 6 (h := fun K hK => ?_)
        go_simp
        refine (same_true n m q2 w7 (HM6.out _ K7.out) HQ7.out).mono ?_
        rintro e w8 ⟨rfl, k8⟩
        have K8 := Lib.hid (K7.out.trans k8)
        clear k8
        go_wp2_with fail
        refine hK.out _ _ (K8.out) (fun hHeld13 => ?_)
        clear hK K
        try simp only [Act.put, List.setIfInBounds_toArray, List.set_cons_zero, List.set_cons_succ]
        refine tk 7 (h := ?_)
        refine tk 8 (h := ?_)
        refine tk 9 (h := ?_)
        refine tk 10 (h := ?_)
        refine tk 11 (h := ?_)
        refine tk 12 (h := ?_)
        refine tk 13 (h := ?_)
        refine wpAnyH_done (by kernel_rfl) ?_ _
        go_upto_region 9 with fail
        have K8' := Lib.hid (K6.out.trans K8.out)
        go_loopw [11] (fun sv wr => ∃ k : Nat, k ≤ n.keys.length ∧ sv = .int .i64 k ∧ Kp (fun _ => False) w6 wr) (fun sv _ => n.keys.length - (Go.RowKit.intOf sv).toNat)
        case atStart => exact ⟨0, Nat.zero_le _, rfl, K8.out⟩
        case round =>
          obtain ⟨k, hk, rfl, hkp⟩ := hrel
          have HK := Lib.hid hkp
          clear hkp
          obtain ⟨y0, y1, y2, y3, y4, y5⟩ := HF.out wr (K6.out.trans HK.out)
          clear y0 y1 y2 y4 y5
          by_cases hlt : k < n.keys.length
          · obtain ⟨x, hx⟩ : ∃ x, n.keys[k]? = some x := ⟨_, List.getElem?_eq_getElem hlt⟩
            obtain ⟨b, o, hA, yx⟩ := (HR.out wr (K6.out.trans HK.out)).k.at (sts_get hx)
            obtain ⟨hle, hmo⟩ := less_at (okB_ky HOK.out) hx
            have his := is_at (okB_ky HOK.out) hx
            have HFD : Hid (∀ v, Kp (fun _ => False) wr v → Calls Try.prog 16 #[.agg (ncs n m), .string x] v fun e w' => e = .returned (.tuple #[.int .i64 k, .bool true]) ∧ Kp (fun _ => False) v w') := Lib.hid fun v hv => by
              have := find_any x n m v (HM6.out v (HK.out.trans hv))
              rwa [hle, his] at this
            have HDN : Hid (∀ v, Kp (fun _ => False) wr v → Calls Try.prog 18 #[.agg (ncs n m), .string x] v fun e w' => e = .returned (.int .i64 (k + 1 : Nat)) ∧ Kp (fun _ => False) v w') := Lib.hid fun v hv => by
              have := down_any x n m v (HM6.out v (HK.out.trans hv))
              rwa [hmo] at this
            have YX := Lib.hid yx
            have HA := Lib.hid hA
            clear hx hA yx hle hmo his
            go_upto_region 11 with fail
            clear y3
            have hd : decide ((k : Int) < (n.keys.length : Int)) = true := by simpa using hlt
            have hd' : decide (k < n.keys.length) = true := by simpa using hlt
            refine wp_region_quiet (C := fun v => Kp (fun _ => False) (wr) v) (by kernel_rfl) (by kernel_rfl) ((Kp.refl _ _).drew) (Wq.out ?_)
            refine qld (gm) 0 ((ncs n m).toList) (fun v hv => (HMB.out v (HK.out.trans hv)).range) Try.underlying36 (h := ?_)
            refine qtk (h := ?_)
            refine qtk (hy := fun v hv => by (obtain ⟨y0, y1, y2, y3, y4, y5⟩ := HF.out v (K6.out.trans (HK.out.trans hv)); have yx := ((hv).cell (p := ⟨b, o + k, none⟩) (World.block_lt_of_cell? wr ⟨b, o + k, none⟩ YX.out) (fun h => h)).trans YX.out; rw [HA.out] at y3; unfold Oper.quietAt; go_simp; with_reducible rfl)) (h := ?_)
            refine qtk (h := ?_)
            refine qtk (h := ?_)
            refine qtk (hy := fun v hv => by (obtain ⟨y0, y1, y2, y3, y4, y5⟩ := HF.out v (K6.out.trans (HK.out.trans hv)); have yx := ((hv).cell (p := ⟨b, o + k, none⟩) (World.block_lt_of_cell? wr ⟨b, o + k, none⟩ YX.out) (fun h => h)).trans YX.out; rw [HA.out] at y3; unfold Oper.quietAt; go_simp; with_reducible rfl)) (h := ?_)
            refine qtk (hy := fun v hv => by (unfold Oper.quietAt; go_simp; exact (HFD.out v hv).mono (fun e w1 h => ⟨h.1, hv.trans h.2⟩))) (h := ?_)
            refine qtk (h := ?_)
            refine qtk (h := ?_)
            refine qtk (h := ?_)
            refine qtk (h := ?_)
            refine qtk (h := ?_)
            refine Wq.mk (wpQuiet_nil ?_)
            intro w9 hw9
            have K9 := Lib.hid hw9
            clear hw9
            go_upto_region 12 with fail
            have hwk : IntKind.i64.wrap ((k : Int) + 1) = (k : Int) + 1 := IntWalk.i64_in _ (by omega)
            refine wp_region_quiet (C := fun v => Kp (fun _ => False) (w9) v) (by kernel_rfl) (by kernel_rfl) ((Kp.refl _ _).drew) (Wq.out ?_)
            refine qtk (h := ?_)
            refine qtk (h := ?_)
            refine qtk (h := ?_)
            refine qtk (h := ?_)
            refine qtk (h := ?_)
            refine qtk (h := ?_)
            refine qtk (h := ?_)
            refine qtk (h := ?_)
            refine qld (gm) 0 ((ncs n m).toList) (fun v hv => (HMB.out v (HK.out.trans (K9.out.trans hv))).range) Try.underlying36 (h := ?_)
            refine qtk (h := ?_)
            refine qtk (hy := fun v hv => by (obtain ⟨y0, y1, y2, y3, y4, y5⟩ := HF.out v (K6.out.trans (HK.out.trans (K9.out.trans hv))); have yx := (((K9.out.trans hv)).cell (p := ⟨b, o + k, none⟩) (World.block_lt_of_cell? wr ⟨b, o + k, none⟩ YX.out) (fun h => h)).trans YX.out; rw [HA.out] at y3; unfold Oper.quietAt; go_simp; with_reducible rfl)) (h := ?_)
            refine qtk (h := ?_)
            refine qtk (h := ?_)
            refine qtk (hy := fun v hv => by (obtain ⟨y0, y1, y2, y3, y4, y5⟩ := HF.out v (K6.out.trans (HK.out.trans (K9.out.trans hv))); have yx := (((K9.out.trans hv)).cell (p := ⟨b, o + k, none⟩) (World.block_lt_of_cell? wr ⟨b, o + k, none⟩ YX.out) (fun h => h)).trans YX.out; rw [HA.out] at y3; unfold Oper.quietAt; go_simp; with_reducible rfl)) (h := ?_)
            refine qtk (hy := fun v hv => by (unfold Oper.quietAt; go_simp; exact (HDN.out v (K9.out.trans hv)).mono (fun e w1 h => ⟨h.1, hv.trans h.2⟩))) (h := ?_)
            refine qtk (h := ?_)
            refine qtk (h := ?_)
            refine qtk (h := ?_)
            refine qtk (h := ?_)
            refine Wq.mk (wpQuiet_nil ?_)
            intro wA hwA
            have KA := Lib.hid (HK.out.trans (K9.out.trans hwA))
            clear hwA hwk hd hd'
            go_wp2_with fail
            go_roundw
            case rel => exact ⟨k + 1, by omega, by go_num, KA.out⟩
            case measure => simp [Go.RowKit.intOf]; omega
          · go_upto_region 14 with fail
            have KZ := Lib.hid (K6.out.trans HK.out)
            clear y3 hlt hk
            obtain ⟨wz, hwz⟩ : ∃ v, v = wr := ⟨_, rfl⟩
            rw [← hwz] at KZ ⊢
            clear hwz
            obtain ⟨y0, y1, y2, y3, y4, y5⟩ := HF.out wz KZ.out
            clear y2 y3 y4 y5
            go_wp2_with fail
            refine (take_any kw vw A l.length c l _ rfl (HRB.out wz KZ.out) (by omega)).mono ?_
            rcases takeS_cases kw vw l with ⟨hsh, hts⟩ | ⟨hsh, hts⟩ | ⟨m2, hsh, hts, hokm, hpm⟩
            · rintro e wc ⟨m2, he, _, kc⟩
              rw [hts] at he
              obtain rfl : e = .returned (.tuple #[.agg #[.bool false, .slice m2.k 0 m2.ck, .slice m2.v 0 m2.cv, .slice m2.c 0 m2.cc], .int .i64 2]) := he
              have KC := Lib.hid (KZ.out.trans kc)
              have HSH := Lib.hid hsh
              clear kc hts hsh y0 y1
              go_upto_region 15 with fail
              obtain ⟨wd, hwd, bd, kd⟩ : ∃ v, v = wc.alloc (.cells #[.bool false, .slice m2.k 0 m2.ck, .slice m2.v 0 m2.cv, .slice m2.c 0 m2.cc] 36) ∧ Box v wc.heap.size 36 #[.bool false, .slice m2.k 0 m2.ck, .slice m2.v 0 m2.cv, .slice m2.c 0 m2.cc] ∧ Kp (fun _ => False) wc v := ⟨_, rfl, Box.new wc _ _, (Kp.refl _ wc).alloc _⟩
              rw [← hwd]
              obtain ⟨gd, hgd⟩ : ∃ gd, wc.heap.size = gd := ⟨_, rfl⟩
              rw [hgd] at bd ⊢
              have HDB : Hid (∀ v, Kp (fun _ => False) wd v → Box v gd 36 #[.bool false, .slice m2.k 0 m2.ck, .slice m2.v 0 m2.cv, .slice m2.c 0 m2.cc]) := Lib.hid fun v hv => bd.kp hv (fun h => h)
              have KD := Lib.hid (KC.out.trans kd)
              have kd' := kd
              clear hwd bd hgd kd'
              clear kd
              obtain ⟨y0, y1, y2, y3, y4, y5⟩ := HF.out wd KD.out
              clear y2 y3 y4 y5
              go_wp2_with fail
              refine (may_any kw vw _).mono ?_
              rintro e we ⟨rfl, ke⟩
              have KE := Lib.hid (KD.out.trans ke)
              have z1 : we.cell? ⟨gd, 1, none⟩ = some (.slice m2.k 0 m2.ck) := (HDB.out we ke).cell 1
              have z3 : we.cell? ⟨gd, 3, none⟩ = some (.slice m2.c 0 m2.cc) := (HDB.out we ke).cell 3
              clear ke y0 y1
              rw [HSH.out]
              go_wp2_with fail
              refine (wakes_true _).mono ?_
              rintro e wf ⟨rfl, kf⟩
              have KF := Lib.hid (KE.out.trans kf)
              clear kf z1 z3
              go_wp2_with fail
              go_ret
              exact ⟨rfl, K0.out.trans KF.out⟩
            · rintro e wc ⟨m2, he, _, kc⟩
              rw [hts] at he
              obtain rfl : e = .returned (.tuple #[.agg #[.bool false, .slice m2.k 0 m2.ck, .slice m2.v 0 m2.cv, .slice m2.c 0 m2.cc], .int .i64 3]) := he
              have KC := Lib.hid (KZ.out.trans kc)
              have HSH := Lib.hid hsh
              clear kc hts hsh y0 y1
              go_upto_region 15 with fail
              obtain ⟨wd, hwd, bd, kd⟩ : ∃ v, v = wc.alloc (.cells #[.bool false, .slice m2.k 0 m2.ck, .slice m2.v 0 m2.cv, .slice m2.c 0 m2.cc] 36) ∧ Box v wc.heap.size 36 #[.bool false, .slice m2.k 0 m2.ck, .slice m2.v 0 m2.cv, .slice m2.c 0 m2.cc] ∧ Kp (fun _ => False) wc v := ⟨_, rfl, Box.new wc _ _, (Kp.refl _ wc).alloc _⟩
              rw [← hwd]
              obtain ⟨gd, hgd⟩ : ∃ gd, wc.heap.size = gd := ⟨_, rfl⟩
              rw [hgd] at bd ⊢
              have HDB : Hid (∀ v, Kp (fun _ => False) wd v → Box v gd 36 #[.bool false, .slice m2.k 0 m2.ck, .slice m2.v 0 m2.cv, .slice m2.c 0 m2.cc]) := Lib.hid fun v hv => bd.kp hv (fun h => h)
              have KD := Lib.hid (KC.out.trans kd)
              have kd' := kd
              clear hwd bd hgd kd'
              clear kd
              obtain ⟨y0, y1, y2, y3, y4, y5⟩ := HF.out wd KD.out
              clear y2 y3 y4 y5
              go_wp2_with fail
              refine (may_any kw vw _).mono ?_
              rintro e we ⟨rfl, ke⟩
              have KE := Lib.hid (KD.out.trans ke)
              have z1 : we.cell? ⟨gd, 1, none⟩ = some (.slice m2.k 0 m2.ck) := (HDB.out we ke).cell 1
              have z3 : we.cell? ⟨gd, 3, none⟩ = some (.slice m2.c 0 m2.cc) := (HDB.out we ke).cell 3
              clear ke y0 y1
              rw [HSH.out]
              go_wp2_with fail
              refine (wakes_true _).mono ?_
              rintro e wf ⟨rfl, kf⟩
              have KF := Lib.hid (KE.out.trans kf)
              clear kf z1 z3
              go_wp2_with fail
              go_ret
              exact ⟨rfl, K0.out.trans KF.out⟩
            · rintro e wc ⟨q3, he, hm3, kc⟩
              rw [hts] at he hm3
              obtain rfl : e = .returned (.tuple #[.agg #[.bool m2.leaf, .slice q3.k m2.keys.length q3.ck, .slice q3.v m2.vals.length q3.cv, .slice q3.c m2.kids.length q3.cc], .int .i64 0]) := he
              have KC := Lib.hid (KZ.out.trans kc)
              have HOKM := Lib.hid hokm
              have HPM := Lib.hid hpm
              have HM3 := Lib.hid hm3
              clear kc hts hsh y0 y1 hokm hpm hm3
              go_upto_region 15 with fail
              obtain ⟨wd, hwd, bd, kd⟩ : ∃ v, v = wc.alloc (.cells #[.bool m2.leaf, .slice q3.k m2.keys.length q3.ck, .slice q3.v m2.vals.length q3.cv, .slice q3.c m2.kids.length q3.cc] 36) ∧ Box v wc.heap.size 36 #[.bool m2.leaf, .slice q3.k m2.keys.length q3.ck, .slice q3.v m2.vals.length q3.cv, .slice q3.c m2.kids.length q3.cc] ∧ Kp (fun _ => False) wc v := ⟨_, rfl, Box.new wc _ _, (Kp.refl _ wc).alloc _⟩
              rw [← hwd]
              obtain ⟨gd, hgd⟩ : ∃ gd, wc.heap.size = gd := ⟨_, rfl⟩
              rw [hgd] at bd ⊢
              have HDB : Hid (∀ v, Kp (fun _ => False) wd v → Box v gd 36 #[.bool m2.leaf, .slice q3.k m2.keys.length q3.ck, .slice q3.v m2.vals.length q3.cv, .slice q3.c m2.kids.length q3.cc]) := Lib.hid fun v hv => bd.kp hv (fun h => h)
              have KD := Lib.hid (KC.out.trans kd)
              have kd' := kd
              clear hwd bd hgd kd'
              have HM4 := Lib.hid (HM3.out.still kd)
              clear kd
              obtain ⟨y0, y1, y2, y3, y4, y5⟩ := HF.out wd KD.out
              clear y2 y3 y4 y5
              have z0 : wd.cell? ⟨gd, 0, none⟩ = some (.bool m2.leaf) := (HDB.out wd (Kp.refl _ _)).cell 0
              have z1 : wd.cell? ⟨gd, 1, none⟩ = some (.slice q3.k m2.keys.length q3.ck) := (HDB.out wd (Kp.refl _ _)).cell 1
              have z2 : wd.cell? ⟨gd, 2, none⟩ = some (.slice q3.v m2.vals.length q3.cv) := (HDB.out wd (Kp.refl _ _)).cell 2
              have z3 : wd.cell? ⟨gd, 3, none⟩ = some (.slice q3.c m2.kids.length q3.cc) := (HDB.out wd (Kp.refl _ _)).cell 3
              go_wp2_with fail
              refine (put_yes kw vw m2 q3 _ HM4.out HOKM.out).mono ?_
              rintro e we ⟨g9, c9, rfl, hc3, hc4, hrd9, _, ke⟩
              have KE := Lib.hid (KD.out.trans ke)
              have hcv1 := hrd9.text (P := Try.prog) 32 9 5 c9 Try.underlying32 Try.underlying5 Try.underlying9
              rw [page_len HOKM.out, HPM.out] at hcv1
              have hcv2 := (HRB.out we KE.out).text (P := Try.prog) 32 9 5 c Try.underlying32 Try.underlying5 Try.underlying9
              clear ke y0 y1 z0 z1 z2 z3 hrd9 hc3 hc4
              go_wp2_with fail
              refine (wakes_true _).mono ?_
              rintro e wf ⟨rfl, kf⟩
              have KF := Lib.hid (KE.out.trans kf)
              clear kf hcv1 hcv2
              go_wp2_with fail
              go_ret
              exact ⟨rfl, K0.out.trans KF.out⟩
  · clear hg
    go_wp2_with fail
    refine (wakes_true _).mono ?_
    rintro e w2 ⟨rfl, k2⟩
    have K2 := Lib.hid k2
    clear k2
    go_wp2_with fail
    go_ret
    exact ⟨rfl, K0.out.trans (K1.out.trans K2.out)⟩
end Go.Proofs.Ytjapnkpicefadaa
