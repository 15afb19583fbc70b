/- The document's own Take of a head's sector. Condition: at most 3,000 bytes. -/
import Derived.Test.YtcgfnfejacgaeaaDoorRcRef
import Derived.Test.YtcgfnfejacgaeaaDoorRcTake
namespace Go.Proofs.YtcgfnfejacgaeaaDoor
open Go.RowKit

theorem ext_mid (l : List UInt8) (a b : Nat) : (⟨l.toArray⟩ : ByteArray).extract a b = ⟨((l.drop a).take (b - a)).toArray⟩ := by
  apply ByteArray.ext
  simp
theorem zRHead : ZeroN Tryd.prog 30 3 := by unfold ZeroN; kernel_rfl
theorem info_rh : (Tryd.prog.info? 30).map (·.size) = some 3 := by kernel_rfl
theorem rtake_res : Tryd.f10.results = #[.cell 2 30, .tmp 3] := by kernel_rfl
set_option maxRecDepth 100000 in
set_option maxHeartbeats 8000000 in
theorem ref_take (l : List UInt8) (w : World) (_hl : l.length ≤ 3000) :
    Calls Tryd.prog 10 #[.string ⟨l.toArray⟩] w (TakeEnd l w) := by
  obtain ⟨W, hW, b2, k0⟩ : ∃ W, W = w.alloc (.cells (hcs hd0).toArray 30) ∧ Box W w.heap.size 30 (hcs hd0).toArray ∧ Kp (fun _ => False) w W := ⟨_, rfl, Box.new w _ _, (Kp.refl _ w).alloc _⟩
  have HW := Lib.hid hW
  have B2 := Lib.hid b2
  have K0 := Lib.hid k0
  clear hW b2 k0
  obtain ⟨sz, hsz⟩ : ∃ sz, (⟨l.toArray⟩ : ByteArray).size = sz := ⟨_, rfl⟩
  have hsl : sz = l.length := by rw [← hsz, str_size]
  by_cases h512 : sz = 512
  · subst h512
    have HLN : Hid (l.length = 512) := Lib.hid hsl.symm
    obtain ⟨P1, hP1⟩ : ∃ P, P = (l.drop 4).take 2 := ⟨_, rfl⟩
    obtain ⟨P2, hP2⟩ : ∃ P, P = (l.drop 6).take 2 := ⟨_, rfl⟩
    obtain ⟨P3, hP3⟩ : ∃ P, P = (l.drop 8).take 4 := ⟨_, rfl⟩
    have e1 : (⟨l.toArray⟩ : ByteArray).extract 4 6 = ⟨P1.toArray⟩ := by rw [ext_mid, hP1]
    have e2 : (⟨l.toArray⟩ : ByteArray).extract 6 8 = ⟨P2.toArray⟩ := by rw [ext_mid, hP2]
    have e3 : (⟨l.toArray⟩ : ByteArray).extract 8 12 = ⟨P3.toArray⟩ := by rw [ext_mid, hP3]
    have HRD : Hid (rdH l = ⟨numN P1, numN P2, numN P3⟩) := Lib.hid (by rw [rdH_of HLN.out, hP1, hP2, hP3])
    have l1 : P1.length ≤ 2 := by rw [hP1]; simp; omega
    have l2 : P2.length ≤ 2 := by rw [hP2]; simp; omega
    have l3 : P3.length ≤ 4 := by rw [hP3]; simp; omega
    have V1 := Lib.hid fun v => value_any P1 v (by omega)
    have V2 := Lib.hid fun v => value_any P2 v (by omega)
    have V3 := Lib.hid fun v => value_any P3 v (by omega)
    have hok := rdH_ok l
    rw [HRD.out] at hok
    obtain ⟨b, hb⟩ : ∃ b, b = numN P1 := ⟨_, rfl⟩
    obtain ⟨u, hu⟩ : ∃ u, u = numN P2 := ⟨_, rfl⟩
    obtain ⟨s, hs⟩ : ∃ s, s = numN P3 := ⟨_, rfl⟩
    rw [← hb] at V1
    rw [← hu] at V2
    rw [← hs] at V3
    rw [← hb, ← hu, ← hs] at HRD hok
    have HOK := Lib.hid hok
    obtain ⟨ob, ou, os⟩ := hok
    simp only at ob ou os
    have wb : IntKind.i64.wrap (b : Int) = (b : Int) := IntWalk.i64_in _ (by omega)
    have wu : IntKind.i64.wrap (u : Int) = (u : Int) := IntWalk.i64_in _ (by omega)
    have ws : IntKind.u32.wrap (s : Int) = (s : Int) := IntWalk.u32_in _ (by omega)
    clear hP1 hP2 hP3 l1 l2 l3 hb hu hs ob ou os hsl
    go_enter Tryd.func10, Tryd.ntmps10
    go_upto_region 1 with fail
    rw [show (#[Value.int IntKind.i64 0, Value.int IntKind.i64 0, Value.int IntKind.u32 0] : Array Value) = (hcs hd0).toArray from rfl, ← HW.out]
    go_upto_region 3 with fail
    refine wp_region_held_drew (S := fun _ => True) (by kernel_rfl) (True.intro) (fun hHeld => ?_)
    generalize hv1 : W.drew = v1 at *
    have KV1 : Hid (Kp (fun _ => False) W v1) := Lib.hid (hv1 ▸ (Kp.refl (fun _ => False) W).drew)
    clear hv1
    refine tk 0 (h := ?_)
    refine tk 1 (h := ?_)
    refine tk 4 (h := ?_)
    refine tk 5 (h := ?_)
    refine tk 8 (h := ?_)
    refine tk 9 (h := ?_)
    refine wpAnyH_ready (rs := [2, 13]) (by kernel_rfl) (by simp) ?_
    refine rdc 2 (h := fun K hK => ?_) (hs := rdc 13 (h := fun K hK => ?_) (hs := AllReadyH.nil))
    · go_simp
      refine (V1.out _).mono ?_
      rintro e vq ⟨rfl, rfl⟩
      go_wp2_with fail
      refine hK.out _ _ (True.intro) (fun hHeld10 => ?_)
      clear hK K
      try simp only [Act.put, List.setIfInBounds_toArray, List.set_cons_zero, List.set_cons_succ]
      refine tk 3 (h := ?_)
      refine wpAnyH_ready (rs := [6, 13]) (by kernel_rfl) (by simp) ?_
      refine rdc 6 (h := fun K hK => ?_) (hs := rdc 13 (h := fun K hK => ?_) (hs := AllReadyH.nil))
      · go_simp
        refine (V2.out _).mono ?_
        rintro e vq ⟨rfl, rfl⟩
        go_wp2_with fail
        refine hK.out _ _ (True.intro) (fun hHeld8 => ?_)
        clear hK K
        try simp only [Act.put, List.setIfInBounds_toArray, List.set_cons_zero, List.set_cons_succ]
        refine tk 7 (h := ?_)
        refine wpAnyH_ready (rs := [10, 13]) (by kernel_rfl) (by simp) ?_
        refine rdc 10 (h := fun K hK => ?_) (hs := rdc 13 (h := fun K hK => ?_) (hs := AllReadyH.nil))
        · go_simp
          refine (V3.out _).mono ?_
          rintro e vq ⟨rfl, rfl⟩
          go_wp2_with fail
          refine hK.out _ _ (True.intro) (fun hHeld6 => ?_)
          clear hK K
          try simp only [Act.put, List.setIfInBounds_toArray, List.set_cons_zero, List.set_cons_succ]
          refine tk 11 (h := ?_)
          refine tk 12 (h := ?_)
          refine rd 13 (h := fun K hK => ?_)
          go_simp
          obtain ⟨g, hg⟩ : ∃ g, g = v1.heap.size := ⟨_, rfl⟩
          obtain ⟨v2, hv2⟩ : ∃ v, v = v1.alloc (.cells #[.int .i64 0, .int .i64 0, .int .u32 0] 30) := ⟨_, rfl⟩
          have G2 : Hid (Box v2 g 30 (hcs hd0).toArray) := Lib.hid (by rw [hv2, hg]; exact Box.new _ _ _)
          have KV2 : Hid (Kp (fun _ => False) W v2) := Lib.hid (by rw [hv2]; exact KV1.out.alloc _)
          have HGE : Hid (W.heap.size ≤ g) := Lib.hid (by rw [hg]; exact KV1.out.size)
          rw [← hv2, ← hg]
          clear hv2 hg
          refine hK.out _ _ (True.intro) (fun hHeld5 => ?_)
          clear hK K
          try simp only [Act.put, List.setIfInBounds_toArray, List.set_cons_zero, List.set_cons_succ]
          refine rd 14 (h := fun K hK => ?_)
          rw [if_pos (by rfl)]
          refine nwp_store_box 30 (.tmp 4) (.tmp 21) rfl g (hcs ⟨b, u, s⟩) rfl rfl G2.out rfl info_rh (hcs_one _) ?_
          intro v5 hb5 hk5
          have HG5 := Lib.hid hb5
          have KV := Lib.hid (KV2.out.trans_new hk5 (fun _ e => .inl (by have := HGE.out; omega)))
          clear hb5 hk5
          refine hK.out _ _ (True.intro) (fun hHeld1 => ?_)
          clear hK K
          try simp only [Act.put]
          refine wpAnyH_done (by kernel_rfl) ?_ _
          have K6 := Lib.hid (K0.out.trans KV.out)
          have R6 := Lib.hid (B2.out.kp KV.out (fun e => e))
          have y0 : v5.cell? ⟨g, 0, none⟩ = some (.int .i64 b) := HG5.out.cell 0
          have y1 : v5.cell? ⟨g, 1, none⟩ = some (.int .i64 u) := HG5.out.cell 1
          have y2 : v5.cell? ⟨g, 2, none⟩ = some (.int .u32 s) := HG5.out.cell 2
          clear wb wu ws e1 e2 e3
          by_cases hu : u ≤ 2048
          · have hui : decide ((2048 : Int) < (u : Int)) = false := by simp; omega
            have HUU := Lib.hid hu
            clear hu
            go_wp2_with fail
            refine (rhput_any ⟨b, u, s⟩ v5 HOK.out).mono ?_
            rintro e w8 ⟨rfl, hk8⟩
            have K8 := Lib.hid (K6.out.trans hk8)
            have B8 := Lib.hid (HG5.out.kp hk8 (fun e => e))
            have R8 := Lib.hid (R6.out.kp hk8 (fun e => e))
            clear hk8 y0 y1 y2 hui
            by_cases heq : l = secR ⟨b, u, s⟩
            · have HV : Hid (takeR l = (⟨b, u, s⟩, 0)) := Lib.hid (by unfold takeR; rw [HRD.out, if_pos ⟨HUU.out, heq⟩])
              have hE : ((⟨(secR ⟨b, u, s⟩).toArray⟩ : ByteArray).toList == (⟨l.toArray⟩ : ByteArray).toList) = true := by rw [nstr_eq, ← heq]; simp
              have hE2 : (secR ⟨b, u, s⟩ == l) = true := by rw [← heq]; simp
              generalize secR ⟨b, u, s⟩ = sq at *
              clear heq
              go_wp2_with (first | (refine wpList_load_mid rfl 30 (.tmp 4) rfl g 0 rfl (hcs ⟨b, u, s⟩) _ B8.out.range' Tryd.underlying30 rfl info_rh ?_) | (refine nstore_box rfl 30 (.tmp 2) (.tmp 32) rfl w.heap.size (hcs ⟨b, u, s⟩) rfl rfl R8.out rfl info_rh (hcs_one _) ?_; intro w10 hb10 hk10; have HB10 := Lib.hid hb10; have HK10 := Lib.hid hk10; clear hb10 hk10) | fail)
              refine bodyPost_ret (v := .tuple #[.agg (hcs ⟨b, u, s⟩).toArray, .int .i64 0]) ?_ rfl ?_
              · exact nresults_two rtake_res _ _ w.heap.size 30 _ (0, 0) _ rfl HB10.out Tryd.underlying30 rfl info_rh
              · rw [TakeEnd, HV.out]
                exact ⟨rfl, K8.out.trans_new HK10.out (fun _ e => .inl (by omega))⟩
            · have HV : Hid (takeR l = (hd0, 3)) := Lib.hid (by unfold takeR; rw [HRD.out, if_neg (fun h => heq h.2)])
              have hE2 : (secR ⟨b, u, s⟩ == l) = false := by simpa using fun h => heq h.symm
              have hE : ((⟨(secR ⟨b, u, s⟩).toArray⟩ : ByteArray).toList == (⟨l.toArray⟩ : ByteArray).toList) = false := by rw [nstr_eq]; exact hE2
              generalize secR ⟨b, u, s⟩ = sq at *
              clear heq
              go_wp2_with (first | (refine nstore_box rfl 30 (.tmp 2) (.tmp 31) rfl w.heap.size (hcs hd0) rfl rfl R8.out rfl info_rh (hcs_one _) ?_; intro w10 hb10 hk10; have HB10 := Lib.hid hb10; have HK10 := Lib.hid hk10; clear hb10 hk10) | fail)
              refine bodyPost_ret (v := .tuple #[.agg (hcs hd0).toArray, .int .i64 3]) ?_ rfl ?_
              · exact nresults_two rtake_res _ _ w.heap.size 30 _ (0, 0) _ rfl HB10.out Tryd.underlying30 rfl info_rh
              · rw [TakeEnd, HV.out]
                exact ⟨rfl, K8.out.trans_new HK10.out (fun _ e => .inl (by omega))⟩
          · have hui : decide ((2048 : Int) < (u : Int)) = true := by simp; omega
            have HV : Hid (takeR l = (hd0, 3)) := Lib.hid (by unfold takeR; rw [HRD.out, if_neg (fun h => hu h.1)])
            clear hu
            go_wp2_with (first | (refine nstore_box rfl 30 (.tmp 2) (.tmp 31) rfl w.heap.size (hcs hd0) rfl rfl R6.out rfl info_rh (hcs_one _) ?_; intro w10 hb10 hk10; have HB10 := Lib.hid hb10; have HK10 := Lib.hid hk10; clear hb10 hk10) | fail)
            refine bodyPost_ret (v := .tuple #[.agg (hcs hd0).toArray, .int .i64 3]) ?_ rfl ?_
            · exact nresults_two rtake_res _ _ w.heap.size 30 _ (0, 0) _ rfl HB10.out Tryd.underlying30 rfl info_rh
            · rw [TakeEnd, HV.out]
              exact ⟨rfl, K6.out.trans_new HK10.out (fun _ e => .inl (by omega))⟩
        · go_simp
          obtain ⟨g, hg⟩ : ∃ g, g = v1.heap.size := ⟨_, rfl⟩
          obtain ⟨v2, hv2⟩ : ∃ v, v = v1.alloc (.cells #[.int .i64 0, .int .i64 0, .int .u32 0] 30) := ⟨_, rfl⟩
          have G2 : Hid (Box v2 g 30 (hcs hd0).toArray) := Lib.hid (by rw [hv2, hg]; exact Box.new _ _ _)
          have KV2 : Hid (Kp (fun _ => False) W v2) := Lib.hid (by rw [hv2]; exact KV1.out.alloc _)
          have HGE : Hid (W.heap.size ≤ g) := Lib.hid (by rw [hg]; exact KV1.out.size)
          rw [← hv2, ← hg]
          clear hv2 hg
          refine hK.out _ _ (True.intro) (fun hHeld7 => ?_)
          clear hK K
          try simp only [Act.put, List.setIfInBounds_toArray, List.set_cons_zero, List.set_cons_succ]
          refine rd 10 (h := fun K hK => ?_)
          go_simp
          refine (V3.out _).mono ?_
          rintro e vq ⟨rfl, rfl⟩
          go_wp2_with fail
          refine hK.out _ _ (True.intro) (fun hHeld2 => ?_)
          clear hK K
          try simp only [Act.put, List.setIfInBounds_toArray, List.set_cons_zero, List.set_cons_succ]
          refine tk 11 (h := ?_)
          refine tk 12 (h := ?_)
          refine rd 14 (h := fun K hK => ?_)
          rw [if_pos (by rfl)]
          refine nwp_store_box 30 (.tmp 4) (.tmp 21) rfl g (hcs ⟨b, u, s⟩) rfl rfl G2.out rfl info_rh (hcs_one _) ?_
          intro v5 hb5 hk5
          have HG5 := Lib.hid hb5
          have KV := Lib.hid (KV2.out.trans_new hk5 (fun _ e => .inl (by have := HGE.out; omega)))
          clear hb5 hk5
          refine hK.out _ _ (True.intro) (fun hHeld1 => ?_)
          clear hK K
          try simp only [Act.put]
          refine wpAnyH_done (by kernel_rfl) ?_ _
          have K6 := Lib.hid (K0.out.trans KV.out)
          have R6 := Lib.hid (B2.out.kp KV.out (fun e => e))
          have y0 : v5.cell? ⟨g, 0, none⟩ = some (.int .i64 b) := HG5.out.cell 0
          have y1 : v5.cell? ⟨g, 1, none⟩ = some (.int .i64 u) := HG5.out.cell 1
          have y2 : v5.cell? ⟨g, 2, none⟩ = some (.int .u32 s) := HG5.out.cell 2
          clear wb wu ws e1 e2 e3
          by_cases hu : u ≤ 2048
          · have hui : decide ((2048 : Int) < (u : Int)) = false := by simp; omega
            have HUU := Lib.hid hu
            clear hu
            go_wp2_with fail
            refine (rhput_any ⟨b, u, s⟩ v5 HOK.out).mono ?_
            rintro e w8 ⟨rfl, hk8⟩
            have K8 := Lib.hid (K6.out.trans hk8)
            have B8 := Lib.hid (HG5.out.kp hk8 (fun e => e))
            have R8 := Lib.hid (R6.out.kp hk8 (fun e => e))
            clear hk8 y0 y1 y2 hui
            by_cases heq : l = secR ⟨b, u, s⟩
            · have HV : Hid (takeR l = (⟨b, u, s⟩, 0)) := Lib.hid (by unfold takeR; rw [HRD.out, if_pos ⟨HUU.out, heq⟩])
              have hE : ((⟨(secR ⟨b, u, s⟩).toArray⟩ : ByteArray).toList == (⟨l.toArray⟩ : ByteArray).toList) = true := by rw [nstr_eq, ← heq]; simp
              have hE2 : (secR ⟨b, u, s⟩ == l) = true := by rw [← heq]; simp
              generalize secR ⟨b, u, s⟩ = sq at *
              clear heq
              go_wp2_with (first | (refine wpList_load_mid rfl 30 (.tmp 4) rfl g 0 rfl (hcs ⟨b, u, s⟩) _ B8.out.range' Tryd.underlying30 rfl info_rh ?_) | (refine nstore_box rfl 30 (.tmp 2) (.tmp 32) rfl w.heap.size (hcs ⟨b, u, s⟩) rfl rfl R8.out rfl info_rh (hcs_one _) ?_; intro w10 hb10 hk10; have HB10 := Lib.hid hb10; have HK10 := Lib.hid hk10; clear hb10 hk10) | fail)
              refine bodyPost_ret (v := .tuple #[.agg (hcs ⟨b, u, s⟩).toArray, .int .i64 0]) ?_ rfl ?_
              · exact nresults_two rtake_res _ _ w.heap.size 30 _ (0, 0) _ rfl HB10.out Tryd.underlying30 rfl info_rh
              · rw [TakeEnd, HV.out]
                exact ⟨rfl, K8.out.trans_new HK10.out (fun _ e => .inl (by omega))⟩
            · have HV : Hid (takeR l = (hd0, 3)) := Lib.hid (by unfold takeR; rw [HRD.out, if_neg (fun h => heq h.2)])
              have hE2 : (secR ⟨b, u, s⟩ == l) = false := by simpa using fun h => heq h.symm
              have hE : ((⟨(secR ⟨b, u, s⟩).toArray⟩ : ByteArray).toList == (⟨l.toArray⟩ : ByteArray).toList) = false := by rw [nstr_eq]; exact hE2
              generalize secR ⟨b, u, s⟩ = sq at *
              clear heq
              go_wp2_with (first | (refine nstore_box rfl 30 (.tmp 2) (.tmp 31) rfl w.heap.size (hcs hd0) rfl rfl R8.out rfl info_rh (hcs_one _) ?_; intro w10 hb10 hk10; have HB10 := Lib.hid hb10; have HK10 := Lib.hid hk10; clear hb10 hk10) | fail)
              refine bodyPost_ret (v := .tuple #[.agg (hcs hd0).toArray, .int .i64 3]) ?_ rfl ?_
              · exact nresults_two rtake_res _ _ w.heap.size 30 _ (0, 0) _ rfl HB10.out Tryd.underlying30 rfl info_rh
              · rw [TakeEnd, HV.out]
                exact ⟨rfl, K8.out.trans_new HK10.out (fun _ e => .inl (by omega))⟩
          · have hui : decide ((2048 : Int) < (u : Int)) = true := by simp; omega
            have HV : Hid (takeR l = (hd0, 3)) := Lib.hid (by unfold takeR; rw [HRD.out, if_neg (fun h => hu h.1)])
            clear hu
            go_wp2_with (first | (refine nstore_box rfl 30 (.tmp 2) (.tmp 31) rfl w.heap.size (hcs hd0) rfl rfl R6.out rfl info_rh (hcs_one _) ?_; intro w10 hb10 hk10; have HB10 := Lib.hid hb10; have HK10 := Lib.hid hk10; clear hb10 hk10) | fail)
            refine bodyPost_ret (v := .tuple #[.agg (hcs hd0).toArray, .int .i64 3]) ?_ rfl ?_
            · exact nresults_two rtake_res _ _ w.heap.size 30 _ (0, 0) _ rfl HB10.out Tryd.underlying30 rfl info_rh
            · rw [TakeEnd, HV.out]
              exact ⟨rfl, K6.out.trans_new HK10.out (fun _ e => .inl (by omega))⟩
      · go_simp
        obtain ⟨g, hg⟩ : ∃ g, g = v1.heap.size := ⟨_, rfl⟩
        obtain ⟨v2, hv2⟩ : ∃ v, v = v1.alloc (.cells #[.int .i64 0, .int .i64 0, .int .u32 0] 30) := ⟨_, rfl⟩
        have G2 : Hid (Box v2 g 30 (hcs hd0).toArray) := Lib.hid (by rw [hv2, hg]; exact Box.new _ _ _)
        have KV2 : Hid (Kp (fun _ => False) W v2) := Lib.hid (by rw [hv2]; exact KV1.out.alloc _)
        have HGE : Hid (W.heap.size ≤ g) := Lib.hid (by rw [hg]; exact KV1.out.size)
        rw [← hv2, ← hg]
        clear hv2 hg
        refine hK.out _ _ (True.intro) (fun hHeld9 => ?_)
        clear hK K
        try simp only [Act.put, List.setIfInBounds_toArray, List.set_cons_zero, List.set_cons_succ]
        refine rd 6 (h := fun K hK => ?_)
        go_simp
        refine (V2.out _).mono ?_
        rintro e vq ⟨rfl, rfl⟩
        go_wp2_with fail
        refine hK.out _ _ (True.intro) (fun hHeld3 => ?_)
        clear hK K
        try simp only [Act.put, List.setIfInBounds_toArray, List.set_cons_zero, List.set_cons_succ]
        refine tk 7 (h := ?_)
        refine rd 10 (h := fun K hK => ?_)
        go_simp
        refine (V3.out _).mono ?_
        rintro e vq ⟨rfl, rfl⟩
        go_wp2_with fail
        refine hK.out _ _ (True.intro) (fun hHeld2 => ?_)
        clear hK K
        try simp only [Act.put, List.setIfInBounds_toArray, List.set_cons_zero, List.set_cons_succ]
        refine tk 11 (h := ?_)
        refine tk 12 (h := ?_)
        refine rd 14 (h := fun K hK => ?_)
        rw [if_pos (by rfl)]
        refine nwp_store_box 30 (.tmp 4) (.tmp 21) rfl g (hcs ⟨b, u, s⟩) rfl rfl G2.out rfl info_rh (hcs_one _) ?_
        intro v5 hb5 hk5
        have HG5 := Lib.hid hb5
        have KV := Lib.hid (KV2.out.trans_new hk5 (fun _ e => .inl (by have := HGE.out; omega)))
        clear hb5 hk5
        refine hK.out _ _ (True.intro) (fun hHeld1 => ?_)
        clear hK K
        try simp only [Act.put]
        refine wpAnyH_done (by kernel_rfl) ?_ _
        have K6 := Lib.hid (K0.out.trans KV.out)
        have R6 := Lib.hid (B2.out.kp KV.out (fun e => e))
        have y0 : v5.cell? ⟨g, 0, none⟩ = some (.int .i64 b) := HG5.out.cell 0
        have y1 : v5.cell? ⟨g, 1, none⟩ = some (.int .i64 u) := HG5.out.cell 1
        have y2 : v5.cell? ⟨g, 2, none⟩ = some (.int .u32 s) := HG5.out.cell 2
        clear wb wu ws e1 e2 e3
        by_cases hu : u ≤ 2048
        · have hui : decide ((2048 : Int) < (u : Int)) = false := by simp; omega
          have HUU := Lib.hid hu
          clear hu
          go_wp2_with fail
          refine (rhput_any ⟨b, u, s⟩ v5 HOK.out).mono ?_
          rintro e w8 ⟨rfl, hk8⟩
          have K8 := Lib.hid (K6.out.trans hk8)
          have B8 := Lib.hid (HG5.out.kp hk8 (fun e => e))
          have R8 := Lib.hid (R6.out.kp hk8 (fun e => e))
          clear hk8 y0 y1 y2 hui
          by_cases heq : l = secR ⟨b, u, s⟩
          · have HV : Hid (takeR l = (⟨b, u, s⟩, 0)) := Lib.hid (by unfold takeR; rw [HRD.out, if_pos ⟨HUU.out, heq⟩])
            have hE : ((⟨(secR ⟨b, u, s⟩).toArray⟩ : ByteArray).toList == (⟨l.toArray⟩ : ByteArray).toList) = true := by rw [nstr_eq, ← heq]; simp
            have hE2 : (secR ⟨b, u, s⟩ == l) = true := by rw [← heq]; simp
            generalize secR ⟨b, u, s⟩ = sq at *
            clear heq
            go_wp2_with (first | (refine wpList_load_mid rfl 30 (.tmp 4) rfl g 0 rfl (hcs ⟨b, u, s⟩) _ B8.out.range' Tryd.underlying30 rfl info_rh ?_) | (refine nstore_box rfl 30 (.tmp 2) (.tmp 32) rfl w.heap.size (hcs ⟨b, u, s⟩) rfl rfl R8.out rfl info_rh (hcs_one _) ?_; intro w10 hb10 hk10; have HB10 := Lib.hid hb10; have HK10 := Lib.hid hk10; clear hb10 hk10) | fail)
            refine bodyPost_ret (v := .tuple #[.agg (hcs ⟨b, u, s⟩).toArray, .int .i64 0]) ?_ rfl ?_
            · exact nresults_two rtake_res _ _ w.heap.size 30 _ (0, 0) _ rfl HB10.out Tryd.underlying30 rfl info_rh
            · rw [TakeEnd, HV.out]
              exact ⟨rfl, K8.out.trans_new HK10.out (fun _ e => .inl (by omega))⟩
          · have HV : Hid (takeR l = (hd0, 3)) := Lib.hid (by unfold takeR; rw [HRD.out, if_neg (fun h => heq h.2)])
            have hE2 : (secR ⟨b, u, s⟩ == l) = false := by simpa using fun h => heq h.symm
            have hE : ((⟨(secR ⟨b, u, s⟩).toArray⟩ : ByteArray).toList == (⟨l.toArray⟩ : ByteArray).toList) = false := by rw [nstr_eq]; exact hE2
            generalize secR ⟨b, u, s⟩ = sq at *
            clear heq
            go_wp2_with (first | (refine nstore_box rfl 30 (.tmp 2) (.tmp 31) rfl w.heap.size (hcs hd0) rfl rfl R8.out rfl info_rh (hcs_one _) ?_; intro w10 hb10 hk10; have HB10 := Lib.hid hb10; have HK10 := Lib.hid hk10; clear hb10 hk10) | fail)
            refine bodyPost_ret (v := .tuple #[.agg (hcs hd0).toArray, .int .i64 3]) ?_ rfl ?_
            · exact nresults_two rtake_res _ _ w.heap.size 30 _ (0, 0) _ rfl HB10.out Tryd.underlying30 rfl info_rh
            · rw [TakeEnd, HV.out]
              exact ⟨rfl, K8.out.trans_new HK10.out (fun _ e => .inl (by omega))⟩
        · have hui : decide ((2048 : Int) < (u : Int)) = true := by simp; omega
          have HV : Hid (takeR l = (hd0, 3)) := Lib.hid (by unfold takeR; rw [HRD.out, if_neg (fun h => hu h.1)])
          clear hu
          go_wp2_with (first | (refine nstore_box rfl 30 (.tmp 2) (.tmp 31) rfl w.heap.size (hcs hd0) rfl rfl R6.out rfl info_rh (hcs_one _) ?_; intro w10 hb10 hk10; have HB10 := Lib.hid hb10; have HK10 := Lib.hid hk10; clear hb10 hk10) | fail)
          refine bodyPost_ret (v := .tuple #[.agg (hcs hd0).toArray, .int .i64 3]) ?_ rfl ?_
          · exact nresults_two rtake_res _ _ w.heap.size 30 _ (0, 0) _ rfl HB10.out Tryd.underlying30 rfl info_rh
          · rw [TakeEnd, HV.out]
            exact ⟨rfl, K6.out.trans_new HK10.out (fun _ e => .inl (by omega))⟩
    · go_simp
      obtain ⟨g, hg⟩ : ∃ g, g = v1.heap.size := ⟨_, rfl⟩
      obtain ⟨v2, hv2⟩ : ∃ v, v = v1.alloc (.cells #[.int .i64 0, .int .i64 0, .int .u32 0] 30) := ⟨_, rfl⟩
      have G2 : Hid (Box v2 g 30 (hcs hd0).toArray) := Lib.hid (by rw [hv2, hg]; exact Box.new _ _ _)
      have KV2 : Hid (Kp (fun _ => False) W v2) := Lib.hid (by rw [hv2]; exact KV1.out.alloc _)
      have HGE : Hid (W.heap.size ≤ g) := Lib.hid (by rw [hg]; exact KV1.out.size)
      rw [← hv2, ← hg]
      clear hv2 hg
      refine hK.out _ _ (True.intro) (fun hHeld11 => ?_)
      clear hK K
      try simp only [Act.put, List.setIfInBounds_toArray, List.set_cons_zero, List.set_cons_succ]
      refine rd 2 (h := fun K hK => ?_)
      go_simp
      refine (V1.out _).mono ?_
      rintro e vq ⟨rfl, rfl⟩
      go_wp2_with fail
      refine hK.out _ _ (True.intro) (fun hHeld4 => ?_)
      clear hK K
      try simp only [Act.put, List.setIfInBounds_toArray, List.set_cons_zero, List.set_cons_succ]
      refine tk 3 (h := ?_)
      refine rd 6 (h := fun K hK => ?_)
      go_simp
      refine (V2.out _).mono ?_
      rintro e vq ⟨rfl, rfl⟩
      go_wp2_with fail
      refine hK.out _ _ (True.intro) (fun hHeld3 => ?_)
      clear hK K
      try simp only [Act.put, List.setIfInBounds_toArray, List.set_cons_zero, List.set_cons_succ]
      refine tk 7 (h := ?_)
      refine rd 10 (h := fun K hK => ?_)
      go_simp
      refine (V3.out _).mono ?_
      rintro e vq ⟨rfl, rfl⟩
      go_wp2_with fail
      refine hK.out _ _ (True.intro) (fun hHeld2 => ?_)
      clear hK K
      try simp only [Act.put, List.setIfInBounds_toArray, List.set_cons_zero, List.set_cons_succ]
      refine tk 11 (h := ?_)
      refine tk 12 (h := ?_)
      refine rd 14 (h := fun K hK => ?_)
      rw [if_pos (by rfl)]
      refine nwp_store_box 30 (.tmp 4) (.tmp 21) rfl g (hcs ⟨b, u, s⟩) rfl rfl G2.out rfl info_rh (hcs_one _) ?_
      intro v5 hb5 hk5
      have HG5 := Lib.hid hb5
      have KV := Lib.hid (KV2.out.trans_new hk5 (fun _ e => .inl (by have := HGE.out; omega)))
      clear hb5 hk5
      refine hK.out _ _ (True.intro) (fun hHeld1 => ?_)
      clear hK K
      try simp only [Act.put]
      refine wpAnyH_done (by kernel_rfl) ?_ _
      have K6 := Lib.hid (K0.out.trans KV.out)
      have R6 := Lib.hid (B2.out.kp KV.out (fun e => e))
      have y0 : v5.cell? ⟨g, 0, none⟩ = some (.int .i64 b) := HG5.out.cell 0
      have y1 : v5.cell? ⟨g, 1, none⟩ = some (.int .i64 u) := HG5.out.cell 1
      have y2 : v5.cell? ⟨g, 2, none⟩ = some (.int .u32 s) := HG5.out.cell 2
      clear wb wu ws e1 e2 e3
      by_cases hu : u ≤ 2048
      · have hui : decide ((2048 : Int) < (u : Int)) = false := by simp; omega
        have HUU := Lib.hid hu
        clear hu
        go_wp2_with fail
        refine (rhput_any ⟨b, u, s⟩ v5 HOK.out).mono ?_
        rintro e w8 ⟨rfl, hk8⟩
        have K8 := Lib.hid (K6.out.trans hk8)
        have B8 := Lib.hid (HG5.out.kp hk8 (fun e => e))
        have R8 := Lib.hid (R6.out.kp hk8 (fun e => e))
        clear hk8 y0 y1 y2 hui
        by_cases heq : l = secR ⟨b, u, s⟩
        · have HV : Hid (takeR l = (⟨b, u, s⟩, 0)) := Lib.hid (by unfold takeR; rw [HRD.out, if_pos ⟨HUU.out, heq⟩])
          have hE : ((⟨(secR ⟨b, u, s⟩).toArray⟩ : ByteArray).toList == (⟨l.toArray⟩ : ByteArray).toList) = true := by rw [nstr_eq, ← heq]; simp
          have hE2 : (secR ⟨b, u, s⟩ == l) = true := by rw [← heq]; simp
          generalize secR ⟨b, u, s⟩ = sq at *
          clear heq
          go_wp2_with (first | (refine wpList_load_mid rfl 30 (.tmp 4) rfl g 0 rfl (hcs ⟨b, u, s⟩) _ B8.out.range' Tryd.underlying30 rfl info_rh ?_) | (refine nstore_box rfl 30 (.tmp 2) (.tmp 32) rfl w.heap.size (hcs ⟨b, u, s⟩) rfl rfl R8.out rfl info_rh (hcs_one _) ?_; intro w10 hb10 hk10; have HB10 := Lib.hid hb10; have HK10 := Lib.hid hk10; clear hb10 hk10) | fail)
          refine bodyPost_ret (v := .tuple #[.agg (hcs ⟨b, u, s⟩).toArray, .int .i64 0]) ?_ rfl ?_
          · exact nresults_two rtake_res _ _ w.heap.size 30 _ (0, 0) _ rfl HB10.out Tryd.underlying30 rfl info_rh
          · rw [TakeEnd, HV.out]
            exact ⟨rfl, K8.out.trans_new HK10.out (fun _ e => .inl (by omega))⟩
        · have HV : Hid (takeR l = (hd0, 3)) := Lib.hid (by unfold takeR; rw [HRD.out, if_neg (fun h => heq h.2)])
          have hE2 : (secR ⟨b, u, s⟩ == l) = false := by simpa using fun h => heq h.symm
          have hE : ((⟨(secR ⟨b, u, s⟩).toArray⟩ : ByteArray).toList == (⟨l.toArray⟩ : ByteArray).toList) = false := by rw [nstr_eq]; exact hE2
          generalize secR ⟨b, u, s⟩ = sq at *
          clear heq
          go_wp2_with (first | (refine nstore_box rfl 30 (.tmp 2) (.tmp 31) rfl w.heap.size (hcs hd0) rfl rfl R8.out rfl info_rh (hcs_one _) ?_; intro w10 hb10 hk10; have HB10 := Lib.hid hb10; have HK10 := Lib.hid hk10; clear hb10 hk10) | fail)
          refine bodyPost_ret (v := .tuple #[.agg (hcs hd0).toArray, .int .i64 3]) ?_ rfl ?_
          · exact nresults_two rtake_res _ _ w.heap.size 30 _ (0, 0) _ rfl HB10.out Tryd.underlying30 rfl info_rh
          · rw [TakeEnd, HV.out]
            exact ⟨rfl, K8.out.trans_new HK10.out (fun _ e => .inl (by omega))⟩
      · have hui : decide ((2048 : Int) < (u : Int)) = true := by simp; omega
        have HV : Hid (takeR l = (hd0, 3)) := Lib.hid (by unfold takeR; rw [HRD.out, if_neg (fun h => hu h.1)])
        clear hu
        go_wp2_with (first | (refine nstore_box rfl 30 (.tmp 2) (.tmp 31) rfl w.heap.size (hcs hd0) rfl rfl R6.out rfl info_rh (hcs_one _) ?_; intro w10 hb10 hk10; have HB10 := Lib.hid hb10; have HK10 := Lib.hid hk10; clear hb10 hk10) | fail)
        refine bodyPost_ret (v := .tuple #[.agg (hcs hd0).toArray, .int .i64 3]) ?_ rfl ?_
        · exact nresults_two rtake_res _ _ w.heap.size 30 _ (0, 0) _ rfl HB10.out Tryd.underlying30 rfl info_rh
        · rw [TakeEnd, HV.out]
          exact ⟨rfl, K6.out.trans_new HK10.out (fun _ e => .inl (by omega))⟩
  · have hne : ((sz : Int) != 512) = true := by simp; omega
    have HV : Hid (takeR l = (hd0, 3)) := Lib.hid (take_other (by omega))
    clear h512 hsl
    go_enter Tryd.func10, Tryd.ntmps10
    go_upto_region 1 with fail
    rw [show (#[Value.int IntKind.i64 0, Value.int IntKind.i64 0, Value.int IntKind.u32 0] : Array Value) = (hcs hd0).toArray from rfl, ← HW.out]
    go_wp2_with (first | (refine nstore_box rfl 30 (.tmp 2) (.tmp 8) rfl w.heap.size (hcs hd0) rfl rfl B2.out rfl info_rh (hcs_one _) ?_; intro w10 hb10 hk10; have HB10 := Lib.hid hb10; have HK10 := Lib.hid hk10; clear hb10 hk10) | fail)
    refine bodyPost_ret (v := .tuple #[.agg (hcs hd0).toArray, .int .i64 3]) ?_ rfl ?_
    · exact nresults_two rtake_res _ _ w.heap.size 30 _ (0, 0) _ rfl HB10.out Tryd.underlying30 rfl info_rh
    · rw [TakeEnd, HV.out]
      exact ⟨rfl, K0.out.trans_new HK10.out (fun _ e => .inl (by omega))⟩
end Go.Proofs.YtcgfnfejacgaeaaDoor
