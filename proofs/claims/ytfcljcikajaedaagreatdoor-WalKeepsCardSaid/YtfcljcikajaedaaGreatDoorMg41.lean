/- The document's own disk: write. Conditions: the disk's own; fewer than 2^30 writes that wait. -/
import Derived.Test.YtfcljcikajaedaaGreatDoorMg40
namespace Go.Proofs.YtfcljcikajaedaaGreatDoor
open Go.RowKit Go.Maps

set_option maxRecDepth 100000 in
set_option maxHeartbeats 4000000 in
theorem rwrite_any {w : World} {vo vw : Value} {d : Dm} (h : Rf w vo vw d) (ok : d.ok) (a : Int) (l : List UInt8) (_hll : l.length ≤ maxLen) (hw : d.wait.length + 1 < 1073741824) :
    Calls Tryz.prog 51 #[.agg (rcs d vo vw), .int .i64 a, .string ⟨l.toArray⟩] w fun e w' => ∃ vo' vw', e = .returned (.tuple #[.agg (rcs (d.writeS a l).1 vo' vw'), .int .i64 (d.writeS a l).2]) ∧ Rf w' vo' vw' (d.writeS a l).1 ∧ Kp (fun _ => False) w w' := by
  have Hr : Hid (Tryz.f51.results = #[.cell 6 37, .tmp 7]) := Lib.hid (by kernel_rfl)
  obtain ⟨W, hW, hb0, hb1, hkw⟩ := start2 w (rcs d vo vw)
  have HW := Lib.hid hW
  have B0 := Lib.hid hb0
  have B1 := Lib.hid hb1
  have KW := Lib.hid hkw
  have H0 := Lib.hid (h.still hkw)
  obtain ⟨ho1, ho2⟩ := h.c1
  clear hb0 hb1 hkw hW
  have y2 : W.cell? ⟨w.heap.size, 2, none⟩ = some (.bool (!d.power)) := B0.out.cell 2
  have hfew := ok.few
  have OK := Lib.hid ok
  obtain ⟨Ao, co, hvo⟩ : ∃ Ao co, vo = .slice Ao d.on.length co := by
    obtain ⟨_, Ao, co, hvo, _⟩ := h.on
    exact ⟨Ao, co, hvo⟩
  subst hvo
  unfold maxLen at _hll
  clear h ok
  rcases hp : d.power with _ | _
  · have hx : d.writeS a l = (d, 4) := by simp [Dm.writeS, hp]
    rw [hx]
    rw [hp, Bool.not_false] at y2
    clear hx hp
    go_enter Tryz.func51, Tryz.ntmps51
    go_upto_region 1 with fail
    rw [← HW.out]
    go_wp2_with (first | (refine wpList_load_mid rfl 37 (.tmp 3) rfl w.heap.size 0 rfl (rcs d (.slice Ao d.on.length co) vw).toList _ (Box.range' (L := (rcs d (.slice Ao d.on.length co) vw).toList) B0.out) Tryz.underlying37 rfl infoRef ?_) | (refine dwpList_store_box rfl 37 (.tmp 6) (.tmp 11) rfl (w.heap.size + 1) (rcs d (.slice Ao d.on.length co) vw).toList rfl rfl B1.out rfl infoRef (rcs_one _ _ _ ho1 ho2) ?_; intro w5 hb5 hk5) | fail)
    refine bodyPost_ret (v := .tuple #[.agg (rcs d (.slice Ao d.on.length co) vw), .int .i64 4]) ?_ rfl ⟨_, vw, rfl, H0.out.store B1.out hk5, KW.out.trans_new hk5 (fun k e => .inl (by omega))⟩
    exact dresults_two Hr.out _ _ (w.heap.size + 1) 37 _ (0, 0) _ rfl hb5 Tryz.underlying37 rfl infoRef
  rw [hp, Bool.not_true] at y2
  have y0 : W.cell? ⟨w.heap.size, 0, none⟩ = some (.slice Ao d.on.length co) := B0.out.cell 0
  by_cases ha : a < 0
  · have hx : d.writeS a l = (d, 2) := by
      have : secB d a = false := by simp [secB]; omega
      simp [Dm.writeS, hp, this]
    rw [hx]
    clear hx hp y0
    go_enter Tryz.func51, Tryz.ntmps51
    go_upto_region 1 with fail
    rw [← HW.out]
    go_wp2_with (first | (refine wpList_load_mid rfl 37 (.tmp 3) rfl w.heap.size 0 rfl (rcs d (.slice Ao d.on.length co) vw).toList _ (Box.range' (L := (rcs d (.slice Ao d.on.length co) vw).toList) B0.out) Tryz.underlying37 rfl infoRef ?_) | (refine dwpList_store_box rfl 37 (.tmp 6) (.tmp 26) rfl (w.heap.size + 1) (rcs d (.slice Ao d.on.length co) vw).toList rfl rfl B1.out rfl infoRef (rcs_one _ _ _ ho1 ho2) ?_; intro w5 hb5 hk5) | fail)
    refine bodyPost_ret (v := .tuple #[.agg (rcs d (.slice Ao d.on.length co) vw), .int .i64 2]) ?_ rfl ⟨_, vw, rfl, H0.out.store B1.out hk5, KW.out.trans_new hk5 (fun k e => .inl (by omega))⟩
    exact dresults_two Hr.out _ _ (w.heap.size + 1) 37 _ (0, 0) _ rfl hb5 Tryz.underlying37 rfl infoRef
  obtain ⟨k, rfl⟩ : ∃ k : Nat, a = k := ⟨a.toNat, by omega⟩
  by_cases hk : k < d.on.length
  · have hs : secB d k = true := by simp [secB]; omega
    by_cases hl : l.length = 512
    · have hd : ((((l.length : Nat) : Int)) == 512) = true := by simp [hl]
      have hl512 : (((l.length : Nat) : Int)) = 512 := by omega
      have HL := Lib.hid hl
      have ra := ract_any H0.out OK.out
      have hkk : ((k : Int)).toNat = k := by omega
      rcases ho : d.out with _ | _
      · have hx : d.writeS k l = (d.act.push k l, 0) := by simp [Dm.writeS, hp, hs, hl, ho]
        rw [hx]
        rw [actS_ok ho] at ra
        obtain ⟨D, hD⟩ : ∃ D, D = d.act := ⟨_, rfl⟩
        have hDw : D.wait.length + 1 < 1073741824 := by rw [hD]; exact hw
        rw [← hD] at ra ⊢
        have RA := Lib.hid ra
        clear hx hp ho hD ra hs hkk hl hw
        go_enter Tryz.func51, Tryz.ntmps51
        go_upto_region 1 with fail
        rw [← HW.out]
        go_wp2_with (first | (refine wpList_load_mid rfl 37 (.tmp 3) rfl w.heap.size 0 rfl (rcs d (.slice Ao d.on.length co) vw).toList _ (Box.range' (L := (rcs d (.slice Ao d.on.length co) vw).toList) B0.out) Tryz.underlying37 rfl infoRef ?_) | fail)
        refine RA.out.mono ?_
        rintro e w1 ⟨va, vb, rfl, hrn, hkn⟩
        obtain ⟨ho3, ho4⟩ := hrn.c1
        have bq := B0.out.kp hkn (fun h => h)
        have HN := Lib.hid hrn
        have HKN := Lib.hid (KW.out.trans hkn)
        have HBQ := Lib.hid bq
        have HBR := Lib.hid (B1.out.kp hkn (fun h => h))
        clear hrn hkn y2 y0 bq hd hl512
        go_upto_region 8 with (first | (refine dwpList_store_box rfl 37 (.tmp 3) (.tmp 30) rfl w.heap.size (rcs D va vb).toList rfl rfl HBQ.out rfl infoRef (rcs_one _ _ _ ho3 ho4) ?_; intro w2 hb2 hk2; have HR2 := Lib.hid (HN.out.store HBQ.out hk2); have HB2 := Lib.hid hb2; have HBR2 := Lib.hid (HBR.out.kp hk2 (fun e => by omega)); have HK2 := Lib.hid (HKN.out.trans_new hk2 (fun k e => .inl (by omega))); clear hb2 hk2) | fail)
        obtain ⟨iW, i1, i2, i3, i4⟩ := wtInfo
        have z1 : w2.cell? ⟨w.heap.size, 1, none⟩ = some vb := HB2.out.cell 1
        go_upto_region 9 with (first | (at_builtin; refine wpList_append_rdr rfl (.const (.slice none 0 0)) (.tmp 36) 34 rfl 142 iW _ 2 24 Tryz.underlying34 i1 i2 i3 i4 rfl (by decide) vb D.wait.length (prs D.wait) rfl rfl HR2.out.wt (prs_one _) (by unfold maxLen; omega) (by omega) ?_; intro v3 w3 hown3 hg3; have k3 := (Kp.refl (fun _ => False) w2).grown hg3 (fun k e => by cases e); have HO3 := Lib.hid hown3; have K3 := Lib.hid k3; clear hown3 hg3 k3 z1) | (at_builtin; refine wpList_append_own _ rfl (.tmp 37) (.tmp 41) 34 rfl w2.heap.size 142 iW _ 2 24 Tryz.underlying34 i1 i2 i3 i4 rfl (by decide) v3 D.wait.length (prs D.wait) rfl (HO3.out.alloc _) ⟨w3.heap.size, 0, none⟩ 1 1 (prs [(k, l)]) rfl rfl (World.news_of_block (heap_alloc_new w3 _)) (prs_one _) (by unfold maxLen; omega) (by omega) (by have := K3.out.size; rw [World.size_alloc]; omega) ?_; intro v4 w4 hown4 hg4 _; obtain ⟨g4, c4, rfl, _, _⟩ := hown4.form (by omega); have k4 := (K3.out.alloc (.cells #[.int .i64 k, .string ⟨l.toArray⟩] 142)).grown hg4 (fun q e => .inl ((HO3.out.lt q e).1)); have HO4 := Lib.hid hown4; have K4 := Lib.hid k4; have z4 : w4.cell? ⟨w.heap.size, 1, none⟩ = some vb := (HB2.out.kp k4 (fun h => h)).cell 1; have f4 := (HB2.out.kp k4 (fun h => h)).free 1; clear hown4 hg4 k4) | fail)
        have hb := HB2.out.kp K4.out (fun h => h)
        have hbr := HBR2.out.kp K4.out (fun h => h)
        have hr0 := HR2.out.still K4.out
        have e : rcs (D.push k l) va (.slice (some ⟨g4, 0, none⟩) (D.wait.length + 1) c4) = (rcs D va vb).setIfInBounds 1 (.slice (some ⟨g4, 0, none⟩) (D.wait.length + 1) c4) := by simp [rcs, Dm.push, leftZ]; rfl
        have hb' := hb.put 1 (.slice (some ⟨g4, 0, none⟩) (D.wait.length + 1) c4)
        have hbr' := hbr.far (p := ⟨w.heap.size, 1, none⟩) (by simp) (.slice (some ⟨g4, 0, none⟩) (D.wait.length + 1) c4)
        have hk1 := (HK2.out.trans K4.out).setCell (p := ⟨w.heap.size, 1, none⟩) (.inl (Nat.le_refl _)) (.slice (some ⟨g4, 0, none⟩) (D.wait.length + 1) c4)
        have hnw : ¬ g4 = w.heap.size := by
          rintro rfl
          obtain ⟨cur, hc⟩ := own_block HO4.out rfl
          exact Box.type_ne (t := 142) hc hb (by decide) rfl
        rw [← e] at hb'
        have hr : Rf (w4.setCell ⟨w.heap.size, 1, none⟩ (.slice (some ⟨g4, 0, none⟩) (D.wait.length + 1) c4)) va (.slice (some ⟨g4, 0, none⟩) (D.wait.length + 1) c4) (D.push k l) := by
          have h1 := hr0.cell hb 1 (.slice (some ⟨g4, 0, none⟩) (D.wait.length + 1) c4)
          have h2 := down_kp HO4.out (Kp.one w4 w.heap.size 1 (.slice (some ⟨g4, 0, none⟩) (D.wait.length + 1) c4)) (fun q e1 e2 => by
            simp [Value.ownBlock] at e1
            exact hnw (e1.trans e2))
          refine ⟨h1.on, ?_⟩
          have h3 := RdR.of_own h2
          have e1 : prs (D.push k l).wait = prs D.wait ++ prs [(k, l)] := by simp [Dm.push, prs]
          have e2 : (D.push k l).wait.length = D.wait.length + 1 := by simp [Dm.push]
          rw [e1, e2]
          exact h3
        obtain ⟨ho1, ho2⟩ := hr.c1
        have HB := Lib.hid hb'
        have HBR := Lib.hid hbr'
        have HR := Lib.hid hr
        have HK1 := Lib.hid hk1
        clear hb hbr hr hr0 hk1 e hb' hbr' z4 f4 hnw
        go_wp2_with (first | (refine wpList_load_mid rfl 37 (.tmp 3) rfl w.heap.size 0 rfl (rcs (D.push k l) va (.slice (some ⟨g4, 0, none⟩) (D.wait.length + 1) c4)).toList _ (Box.range' (L := (rcs (D.push k l) va (.slice (some ⟨g4, 0, none⟩) (D.wait.length + 1) c4)).toList) HB.out) Tryz.underlying37 rfl infoRef ?_) | (refine dwpList_store_box rfl 37 (.tmp 6) (.tmp 44) rfl (w.heap.size + 1) (rcs (D.push k l) va (.slice (some ⟨g4, 0, none⟩) (D.wait.length + 1) c4)).toList rfl rfl HBR.out rfl infoRef (rcs_one _ _ _ ho1 ho2) ?_; intro w5 hb5 hk5) | fail)
        refine bodyPost_ret (v := .tuple #[.agg (rcs (D.push k l) va (.slice (some ⟨g4, 0, none⟩) (D.wait.length + 1) c4)), .int .i64 0]) ?_ rfl ⟨va, _, rfl, HR.out.store HBR.out hk5, HK1.out.trans_new hk5 (fun k e => .inl (by omega))⟩
        exact dresults_two Hr.out _ _ (w.heap.size + 1) 37 _ (0, 0) _ rfl hb5 Tryz.underlying37 rfl infoRef
      · have hx : d.writeS k l = (d.lose d.keep, 4) := by simp [Dm.writeS, hp, hs, hl, ho]
        rw [hx]
        rw [actS_out ho] at ra
        clear hx hp ho hs hkk hl
        have RA := Lib.hid ra
        clear ra
        go_enter Tryz.func51, Tryz.ntmps51
        go_upto_region 1 with fail
        rw [← HW.out]
        go_wp2_with (first | (refine wpList_load_mid rfl 37 (.tmp 3) rfl w.heap.size 0 rfl (rcs d (.slice Ao d.on.length co) vw).toList _ (Box.range' (L := (rcs d (.slice Ao d.on.length co) vw).toList) B0.out) Tryz.underlying37 rfl infoRef ?_) | fail)
        refine RA.out.mono ?_
        rintro e w1 ⟨va, vb, rfl, hrn, hkn⟩
        obtain ⟨ho3, ho4⟩ := hrn.c1
        have bq := B0.out.kp hkn (fun h => h)
        have HN := Lib.hid hrn
        have HKN := Lib.hid (KW.out.trans hkn)
        have HBQ := Lib.hid bq
        have HBR := Lib.hid (B1.out.kp hkn (fun h => h))
        clear hrn hkn y2 y0 bq
        go_wp2_with (first | (refine dwpList_store_box rfl 37 (.tmp 3) (.tmp 30) rfl w.heap.size (rcs (d.lose d.keep) va vb).toList rfl rfl HBQ.out rfl infoRef (rcs_one _ _ _ ho3 ho4) ?_; intro w2 hb2 hk2; have HR2 := Lib.hid (HN.out.store HBQ.out hk2); have HB2 := Lib.hid hb2; have HBR2 := Lib.hid (HBR.out.kp hk2 (fun e => by omega)); have HK2 := Lib.hid (HKN.out.trans_new hk2 (fun k e => .inl (by omega))); clear hb2 hk2) | (refine wpList_load_mid rfl 37 (.tmp 3) rfl w.heap.size 0 rfl (rcs (d.lose d.keep) va vb).toList _ (Box.range' (L := (rcs (d.lose d.keep) va vb).toList) HB2.out) Tryz.underlying37 rfl infoRef ?_) | (refine dwpList_store_box rfl 37 (.tmp 6) (.tmp 34) rfl (w.heap.size + 1) (rcs (d.lose d.keep) va vb).toList rfl rfl HBR2.out rfl infoRef (rcs_one _ _ _ ho3 ho4) ?_; intro w5 hb5 hk5) | fail)
        refine bodyPost_ret (v := .tuple #[.agg (rcs (d.lose d.keep) va vb), .int .i64 4]) ?_ rfl ⟨va, vb, rfl, HR2.out.store HBR2.out hk5, HK2.out.trans_new hk5 (fun k e => .inl (by omega))⟩
        exact dresults_two Hr.out _ _ (w.heap.size + 1) 37 _ (0, 0) _ rfl hb5 Tryz.underlying37 rfl infoRef
    · have hx : d.writeS k l = (d, 2) := by simp [Dm.writeS, hp, hs, hl]
      rw [hx]
      have hne : ((((l.length : Nat) : Int)) != 512) = true := by simp; omega
      clear hx hp hs hl
      go_enter Tryz.func51, Tryz.ntmps51
      go_upto_region 1 with fail
      rw [← HW.out]
      go_wp2_with (first | (refine wpList_load_mid rfl 37 (.tmp 3) rfl w.heap.size 0 rfl (rcs d (.slice Ao d.on.length co) vw).toList _ (Box.range' (L := (rcs d (.slice Ao d.on.length co) vw).toList) B0.out) Tryz.underlying37 rfl infoRef ?_) | (refine dwpList_store_box rfl 37 (.tmp 6) (.tmp 26) rfl (w.heap.size + 1) (rcs d (.slice Ao d.on.length co) vw).toList rfl rfl B1.out rfl infoRef (rcs_one _ _ _ ho1 ho2) ?_; intro w5 hb5 hk5) | fail)
      refine bodyPost_ret (v := .tuple #[.agg (rcs d (.slice Ao d.on.length co) vw), .int .i64 2]) ?_ rfl ⟨_, vw, rfl, H0.out.store B1.out hk5, KW.out.trans_new hk5 (fun k e => .inl (by omega))⟩
      exact dresults_two Hr.out _ _ (w.heap.size + 1) 37 _ (0, 0) _ rfl hb5 Tryz.underlying37 rfl infoRef
  · have hx : d.writeS k l = (d, 2) := by
      have : secB d k = false := by simp [secB]; omega
      simp [Dm.writeS, hp, this]
    rw [hx]
    clear hx hp
    go_enter Tryz.func51, Tryz.ntmps51
    go_upto_region 1 with fail
    rw [← HW.out]
    go_wp2_with (first | (refine wpList_load_mid rfl 37 (.tmp 3) rfl w.heap.size 0 rfl (rcs d (.slice Ao d.on.length co) vw).toList _ (Box.range' (L := (rcs d (.slice Ao d.on.length co) vw).toList) B0.out) Tryz.underlying37 rfl infoRef ?_) | (refine dwpList_store_box rfl 37 (.tmp 6) (.tmp 26) rfl (w.heap.size + 1) (rcs d (.slice Ao d.on.length co) vw).toList rfl rfl B1.out rfl infoRef (rcs_one _ _ _ ho1 ho2) ?_; intro w5 hb5 hk5) | fail)
    refine bodyPost_ret (v := .tuple #[.agg (rcs d (.slice Ao d.on.length co) vw), .int .i64 2]) ?_ rfl ⟨_, vw, rfl, H0.out.store B1.out hk5, KW.out.trans_new hk5 (fun k e => .inl (by omega))⟩
    exact dresults_two Hr.out _ _ (w.heap.size + 1) 37 _ (0, 0) _ rfl hb5 Tryz.underlying37 rfl infoRef
end Go.Proofs.YtfcljcikajaedaaGreatDoor
