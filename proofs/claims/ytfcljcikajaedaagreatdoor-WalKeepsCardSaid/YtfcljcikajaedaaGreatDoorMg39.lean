/- The document's own disk: flush. Conditions: the disk's own. -/
import Derived.Test.YtfcljcikajaedaaGreatDoorMg38
namespace Go.Proofs.YtfcljcikajaedaaGreatDoor
open Go.RowKit Go.Maps

theorem actS_out {d : Dm} (h : d.out = true) : d.actS = (d.lose d.keep, false) := by simp [Dm.actS, h]
theorem actS_ok {d : Dm} (h : d.out = false) : d.actS = (d.act, true) := by simp [Dm.actS, h]

set_option maxRecDepth 100000 in
set_option maxHeartbeats 4000000 in
theorem rflush_any {w : World} {vo vw : Value} {d : Dm} (h : Rf w vo vw d) (ok : d.ok) :
    Calls Tryz.prog 53 #[.agg (rcs d vo vw)] w fun e w' => ∃ vo' vw', e = .returned (.tuple #[.agg (rcs d.flushS.1 vo' vw'), .int .i64 d.flushS.2]) ∧ Rf w' vo' vw' d.flushS.1 ∧ Kp (fun _ => False) w w' := by
  have Hr : Hid (Tryz.f53.results = #[.cell 2 37, .tmp 3]) := Lib.hid (by kernel_rfl)
  obtain ⟨W, hW, hb0, hb1, hkw⟩ := start2 w (rcs d vo vw)
  have HW := Lib.hid hW
  have B0 := Lib.hid hb0
  have B1 := Lib.hid hb1
  have KW := Lib.hid hkw
  have H0 := Lib.hid (h.still hkw)
  obtain ⟨ho1, ho2⟩ := h.c1
  clear hb0 hb1 hkw hW
  have y2 : W.cell? ⟨w.heap.size, 2, none⟩ = some (.bool (!d.power)) := B0.out.cell 2
  have hwl := ok.waits
  have OK := Lib.hid ok
  clear h ok
  rcases hp : d.power with _ | _
  · have hx : d.flushS = (d, 4) := by simp [Dm.flushS, hp]
    rw [hx]
    rw [hp, Bool.not_false] at y2
    clear hx hp
    go_enter Tryz.func53, Tryz.ntmps53
    go_upto_region 1 with fail
    rw [← HW.out]
    go_wp2_with (first | (refine wpList_load_mid rfl 37 (.tmp 1) rfl w.heap.size 0 rfl (rcs d vo vw).toList _ (Box.range' (L := (rcs d vo vw).toList) B0.out) Tryz.underlying37 rfl infoRef ?_) | (refine dwpList_store_box rfl 37 (.tmp 2) (.tmp 8) rfl (w.heap.size + 1) (rcs d vo vw).toList rfl rfl B1.out rfl infoRef (rcs_one _ _ _ ho1 ho2) ?_; intro w5 hb5 hk5) | fail)
    refine bodyPost_ret (v := .tuple #[.agg (rcs d vo vw), .int .i64 4]) ?_ rfl ⟨vo, vw, rfl, H0.out.store B1.out hk5, KW.out.trans_new hk5 (fun k e => .inl (by omega))⟩
    exact dresults_two Hr.out _ _ (w.heap.size + 1) 37 _ (0, 0) _ rfl hb5 Tryz.underlying37 rfl infoRef
  rw [hp, Bool.not_true] at y2
  have ra := ract_any H0.out OK.out
  rcases ho : d.out with _ | _
  · have hx : d.flushS = (d.act.all, 0) := by simp [Dm.flushS, hp, ho]
    rw [hx]
    rw [actS_ok ho] at ra
    obtain ⟨D, hD⟩ : ∃ D, D = d.act := ⟨_, rfl⟩
    have okd : D.ok := by rw [hD]; exact ok_act OK.out
    rw [← hD] at ra ⊢
    have hwl2 := okd.waits
    have OKD := Lib.hid okd
    clear hx hp ho hD okd hwl
    have RA := Lib.hid ra
    clear ra
    go_enter Tryz.func53, Tryz.ntmps53
    go_upto_region 1 with fail
    rw [← HW.out]
    go_wp2_with (first | (refine wpList_load_mid rfl 37 (.tmp 1) rfl w.heap.size 0 rfl (rcs d vo vw).toList _ (Box.range' (L := (rcs d vo vw).toList) B0.out) Tryz.underlying37 rfl infoRef ?_) | fail)
    refine RA.out.mono ?_
    rintro e w1 ⟨va, vb, rfl, hrn, hkn⟩
    obtain ⟨Aw, cw, hvw, hcw⟩ : ∃ Aw cw, vb = .slice Aw D.wait.length cw ∧ D.wait.length ≤ cw := by
      obtain ⟨_, Aw, cw, hvw, hcw, _⟩ := hrn.wt
      exact ⟨Aw, cw, hvw, hcw⟩
    subst hvw
    obtain ⟨ho3, ho4⟩ := hrn.c1
    have bq := B0.out.kp hkn (fun h => h)
    have HN := Lib.hid hrn
    have HKN := Lib.hid (KW.out.trans hkn)
    have HBQ := Lib.hid bq
    have HBR := Lib.hid (B1.out.kp hkn (fun h => h))
    clear hrn hkn y2 bq
    go_wp2_with (first | (refine dwpList_store_box rfl 37 (.tmp 1) (.tmp 12) rfl w.heap.size (rcs D va (.slice Aw D.wait.length cw)).toList rfl rfl HBQ.out rfl infoRef (rcs_one _ _ _ ho3 ho4) ?_; intro w2 hb2 hk2; have HR2 := Lib.hid (HN.out.store HBQ.out hk2); have HB2 := Lib.hid hb2; have HBR2 := Lib.hid (HBR.out.kp hk2 (fun e => by omega)); have HK2 := Lib.hid (HKN.out.trans_new hk2 (fun k e => .inl (by omega))); clear hb2 hk2) | fail)
    go_loopw [5] (fun i wr => ∃ (k : Nat) (vk : Value), k ≤ D.wait.length ∧ i = .int .i64 k ∧ Box wr w.heap.size 37 (rcs D vk (.slice Aw D.wait.length cw)) ∧ Box wr (w.heap.size + 1) 37 #[.slice none 0 0, .slice none 0 0, .bool false, .int .i64 0, .string ⟨#[]⟩, .int .u64 0] ∧ Rf wr vk (.slice Aw D.wait.length cw) (D.upto (fun _ => true) k) ∧ Kp (fun _ => False) w wr)
      (fun i _ => D.wait.length - (intOf i).toNat)
    case atStart => exact ⟨0, va, Nat.zero_le _, rfl, HB2.out, HBR2.out, by rw [upto_zero]; exact HR2.out, HK2.out⟩
    case round =>
      obtain ⟨k, vk, hk, rfl, hb0, hb1, hrf, hkw⟩ := hrel
      have BK := Lib.hid hb0
      have BR := Lib.hid hb1
      have RK := Lib.hid hrf
      have HK := Lib.hid hkw
      have cs : wr.cell? ⟨w.heap.size, 1, none⟩ = some (.slice Aw D.wait.length cw) := hb0.cell 1
      clear hb0 hb1 hrf hkw
      by_cases hlt : k < D.wait.length
      · obtain ⟨gw, cw', hvg, _, hcell⟩ := RK.out.wt.cell (show 0 < (D.upto (fun _ => true) k).wait.length from Nat.lt_of_le_of_lt (Nat.zero_le k) hlt)
        injection hvg with hA hB0 hC
        clear hB0
        subst hA
        subst hC
        have hgw0 : ¬ gw = w.heap.size := by
          rintro rfl
          obtain ⟨_, _, _, hv1, _, h2⟩ := RK.out.wt
          injection hv1 with e1 _ _
          subst e1
          rcases h2 with h2 | ⟨b, cur, e2, hb, _⟩
          · have h2' : D.wait.length = 0 := h2
            omega
          · injection e2 with e3
            injection e3 with e4
            subst e4
            exact Box.type_ne hb BK.out (by decide) rfl
        obtain ⟨x, hx⟩ : ∃ x, D.wait[k]? = some x := ⟨_, List.getElem?_eq_getElem hlt⟩
        obtain ⟨p0, p1⟩ := prs_get D.wait k x hx
        have c0 : wr.cell? ⟨gw, k * 2, none⟩ = some (.int .i64 x.1) := hcell _ _ p0
        have c1 : wr.cell? ⟨gw, k * 2 + 1, none⟩ = some (.string ⟨x.2.toArray⟩) := hcell _ _ p1
        have HX := Lib.hid hx
        clear hx hcell p0 p1
        go_upto_region 9 with fail
        refine wp_region_held_drew (S := fun v => v.cell? ⟨w.heap.size, 1, none⟩ = some (.slice (some ⟨gw, 0, none⟩) D.wait.length cw) ∧ v.cell? ⟨gw, k * 2, none⟩ = some (.int .i64 x.1) ∧ v.cell? ⟨gw, k * 2 + 1, none⟩ = some (.string ⟨x.2.toArray⟩)) (by kernel_rfl) ⟨cs, c0, c1⟩ (fun hHeld => ?_)
        refine wpAnyH_take (i := 1) (oi := { dst := some 25, op := Op.fieldAddr 37 (Operand.tmp 1) 1, type := 0, pos := "ref.go:113", after := #[], guard := none }) (v := ?_) rfl (by kernel_rfl) (by kernel_rfl) (by kernel_rfl) (fun _ _ _ h => h) (Or.inl ⟨by rfl, ?_⟩) (by assumption) ?_
        rotate_left
        · intro v hSw
          try dsimp only at hSw
          go_simp
          with_reducible rfl
        try simp only [Act.put, List.setIfInBounds_toArray, List.set_cons_zero, List.set_cons_succ]
        refine wpAnyH_take (i := 2) (oi := { dst := some 26, op := Op.load 34 (Operand.tmp 25), type := 34, pos := "ref.go:113", after := #[{ on := 1, ground := Ground.data }], guard := none }) (v := ?_) rfl (by kernel_rfl) (by kernel_rfl) (by kernel_rfl) (fun _ _ _ h => h) (Or.inl ⟨by rfl, ?_⟩) (by assumption) ?_
        rotate_left
        · intro v hSw
          try dsimp only at hSw
          go_simp
          with_reducible rfl
        try simp only [Act.put, List.setIfInBounds_toArray, List.set_cons_zero, List.set_cons_succ]
        refine wpAnyH_take (i := 3) (oi := { dst := some 27, op := Op.move (Operand.tmp 5), type := 3, pos := "ref.go:113", after := #[], guard := none }) (v := ?_) rfl (by kernel_rfl) (by kernel_rfl) (by kernel_rfl) (fun _ _ _ h => h) (Or.inl ⟨by rfl, ?_⟩) (by assumption) ?_
        rotate_left
        · intro v hSw
          try dsimp only at hSw
          go_simp
          with_reducible rfl
        try simp only [Act.put, List.setIfInBounds_toArray, List.set_cons_zero, List.set_cons_succ]
        refine wpAnyH_take (i := 4) (oi := { dst := some 28, op := Op.indexAddr 34 (Operand.tmp 26) (Operand.tmp 27), type := 0, pos := "ref.go:113", after := #[{ on := 2, ground := Ground.data }, { on := 3, ground := Ground.data }], guard := none }) (v := ?_) rfl (by kernel_rfl) (by kernel_rfl) (by kernel_rfl) (fun _ _ _ h => h) (Or.inl ⟨by rfl, ?_⟩) (by assumption) ?_
        rotate_left
        · intro v hSw
          try dsimp only at hSw
          go_simp
          with_reducible rfl
        try simp only [Act.put, List.setIfInBounds_toArray, List.set_cons_zero, List.set_cons_succ]
        refine wpAnyH_take (i := 5) (oi := { dst := some 29, op := Op.load 142 (Operand.tmp 28), type := 142, pos := "ref.go:113", after := #[{ on := 4, ground := Ground.data }], guard := none }) (v := ?_) rfl (by kernel_rfl) (by kernel_rfl) (by kernel_rfl) (fun _ _ _ h => h) (Or.inl ⟨by rfl, ?_⟩) (by assumption) ?_
        rotate_left
        · intro v hSw
          try dsimp only at hSw
          go_simp
          with_reducible rfl
        try simp only [Act.put, List.setIfInBounds_toArray, List.set_cons_zero, List.set_cons_succ]
        refine wpAnyH_ready (rs := [0]) (by kernel_rfl) (by simp) ?_
        refine AllReadyH.cons (o := { dst := some 24, op := Op.load 37 (Operand.tmp 1), type := 37, pos := "ref.go:113", after := #[], guard := none }) rfl (fun K hK => ?_) AllReadyH.nil
        rw [if_pos (by rfl)]
        refine wp_load_mid 37 (.tmp 1) rfl w.heap.size 0 rfl (rcs D vk (.slice (some ⟨gw, 0, none⟩) D.wait.length cw)).toList _ (Box.range' (L := (rcs D vk (.slice (some ⟨gw, 0, none⟩) D.wait.length cw)).toList) BK.out.drew) Tryz.underlying37 rfl infoRef ?_
        refine hK.out _ _ ⟨cs, c0, c1⟩ (fun hHeld0 => ?_)
        clear hK K
        try simp only [Act.put, List.setIfInBounds_toArray, List.set_cons_zero, List.set_cons_succ]
        refine wpAnyH_ready (rs := [6]) (by kernel_rfl) (by simp) ?_
        refine AllReadyH.cons (o := { dst := some 30, op := Op.call { callee := Callee.value (Operand.func 82), args := #[Operand.tmp 24, Operand.tmp 29], argTypes := #[37, 142] }, type := 37, pos := "ref.go:113", after := #[{ on := 0, ground := Ground.data }, { on := 5, ground := Ground.data }], guard := none }) rfl (fun K hK => ?_) AllReadyH.nil
        go_simp
        refine (put_upto (f := fun _ => true) RK.out.drew OKD.out x HX.out rfl).mono ?_
        rintro e y1 ⟨vn, rfl, rn, kn⟩
        have RN := Lib.hid rn
        have KN := Lib.hid ((Kp.refl (fun _ => False) wr).drew.trans kn)
        clear rn kn
        have ds := (KN.out.cell (p := ⟨w.heap.size, 1, none⟩) (World.block_lt_of_cell? wr _ cs) (fun h => h)).trans cs
        have d0 := (KN.out.cell (p := ⟨gw, k * 2, none⟩) (World.block_lt_of_cell? wr _ c0) (fun h => h)).trans c0
        have d1 := (KN.out.cell (p := ⟨gw, k * 2 + 1, none⟩) (World.block_lt_of_cell? wr _ c1) (fun h => h)).trans c1
        go_wp2_with fail
        refine hK.out _ _ ⟨ds, d0, d1⟩ (fun hHeld6 => ?_)
        clear hK K
        try simp only [Act.put, List.setIfInBounds_toArray, List.set_cons_zero, List.set_cons_succ]
        refine wpAnyH_ready (rs := [7]) (by kernel_rfl) (by simp) ?_
        refine AllReadyH.cons (o := { dst := none, op := Op.store 37 (Operand.tmp 1) (Operand.tmp 30), type := 0, pos := "ref.go:113", after := #[{ on := 6, ground := Ground.data }, { on := 6, ground := Ground.chain }, { on := 0, ground := Ground.phase }, { on := 1, ground := Ground.phase }, { on := 2, ground := Ground.phase }, { on := 3, ground := Ground.phase }, { on := 4, ground := Ground.phase }, { on := 5, ground := Ground.phase }, { on := 6, ground := Ground.phase }], guard := none }) rfl (fun K hK => ?_) AllReadyH.nil
        rw [if_pos (by rfl)]
        refine dwp_store_box 37 (.tmp 1) (.tmp 30) rfl w.heap.size (rcs D vn (.slice (some ⟨gw, 0, none⟩) D.wait.length cw)).toList rfl rfl (BK.out.kp KN.out (fun h => h)) rfl infoRef (rcs_one _ _ _ RN.out.c1.1 rfl) ?_
        intro y2 hb2 hk2
        have B2 := Lib.hid hb2
        have K2 := Lib.hid hk2
        clear hb2 hk2
        have fs : y2.cell? ⟨w.heap.size, 1, none⟩ = some (.slice (some ⟨gw, 0, none⟩) D.wait.length cw) := B2.out.cell 1
        have f0 := (K2.out.cell (p := ⟨gw, k * 2, none⟩) (World.block_lt_of_cell? y1 _ d0) hgw0).trans d0
        have f1 := (K2.out.cell (p := ⟨gw, k * 2 + 1, none⟩) (World.block_lt_of_cell? y1 _ d1) hgw0).trans d1
        refine hK.out _ _ ⟨fs, f0, f1⟩ (fun hHeld7 => ?_)
        clear hK K
        try simp only [Act.put]
        refine wpAnyH_done (by kernel_rfl) ?_ _
        go_wp2_with fail
        go_roundw
        case rel => exact ⟨k + 1, vn, by omega, by go_num, B2.out, (BR.out.kp KN.out (fun h => h)).kp K2.out (fun e => by omega), RN.out.store (BK.out.kp KN.out (fun h => h)) K2.out, (HK.out.trans KN.out).trans_new K2.out (fun q e => .inl (by omega))⟩
        case measure => simp [intOf]; omega
      · obtain rfl : k = D.wait.length := by omega
        have f1 := BK.out.free 1
        go_upto_region 11 with fail
        have hb := BK.out.put 1 (.slice none 0 0)
        have hbr := BR.out.far (p := ⟨w.heap.size, 1, none⟩) (by simp) (.slice none 0 0)
        have e : rcs D.all vk (.slice none 0 0) = (rcs D vk (.slice Aw D.wait.length cw)).setIfInBounds 1 (.slice none 0 0) := by
          simp [rcs, Dm.all, leftZ]; rfl
        rw [← e] at hb
        have hr0 := RK.out.cell BK.out 1 (.slice none 0 0)
        have hr : Rf (wr.setCell ⟨w.heap.size, 1, none⟩ (.slice none 0 0)) vk (.slice none 0 0) D.all := ⟨by
          have h1 := hr0.on
          have e1 : (D.upto (fun _ => true) D.wait.length).on = D.all.on := by
            simp only [Dm.upto, List.take_length]; rfl
          rw [e1] at h1
          exact h1, RdR.nil _ _ _⟩
        have hk1 := HK.out.setCell (p := ⟨w.heap.size, 1, none⟩) (.inl (Nat.le_refl _)) (.slice none 0 0)
        obtain ⟨ho1, ho2⟩ := hr.c1
        have HB := Lib.hid hb
        have HBR := Lib.hid hbr
        have HR := Lib.hid hr
        have HK1 := Lib.hid hk1
        clear hb hbr hr hr0 hk1 cs f1 e
        go_wp2_with (first | (refine wpList_load_mid rfl 37 (.tmp 1) rfl w.heap.size 0 rfl (rcs D.all vk (.slice none 0 0)).toList _ (Box.range' (L := (rcs D.all vk (.slice none 0 0)).toList) HB.out) Tryz.underlying37 rfl infoRef ?_) | (refine dwpList_store_box rfl 37 (.tmp 2) (.tmp 32) rfl (w.heap.size + 1) (rcs D.all vk (.slice none 0 0)).toList rfl rfl HBR.out rfl infoRef (rcs_one _ _ _ ho1 ho2) ?_; intro w5 hb5 hk5) | fail)
        refine bodyPost_ret (v := .tuple #[.agg (rcs D.all vk (.slice none 0 0)), .int .i64 0]) ?_ rfl ⟨vk, _, rfl, HR.out.store HBR.out hk5, HK1.out.trans_new hk5 (fun k e => .inl (by omega))⟩
        exact dresults_two Hr.out _ _ (w.heap.size + 1) 37 _ (0, 0) _ rfl hb5 Tryz.underlying37 rfl infoRef
  · have hx : d.flushS = (d.lose d.keep, 4) := by simp [Dm.flushS, hp, ho]
    rw [hx]
    rw [actS_out ho] at ra
    clear hx hp ho
    have RA := Lib.hid ra
    clear ra
    go_enter Tryz.func53, Tryz.ntmps53
    go_upto_region 1 with fail
    rw [← HW.out]
    go_wp2_with (first | (refine wpList_load_mid rfl 37 (.tmp 1) rfl w.heap.size 0 rfl (rcs d vo vw).toList _ (Box.range' (L := (rcs d vo vw).toList) B0.out) Tryz.underlying37 rfl infoRef ?_) | fail)
    refine RA.out.mono ?_
    rintro e w1 ⟨va, vb, rfl, hrn, hkn⟩
    obtain ⟨ho3, ho4⟩ := hrn.c1
    have bq := B0.out.kp hkn (fun h => h)
    have HN := Lib.hid hrn
    have HKN := Lib.hid (KW.out.trans hkn)
    have HBQ := Lib.hid bq
    have HBR := Lib.hid (B1.out.kp hkn (fun h => h))
    clear hrn hkn y2 bq
    go_wp2_with (first | (refine dwpList_store_box rfl 37 (.tmp 1) (.tmp 12) rfl w.heap.size (rcs (d.lose d.keep) va vb).toList rfl rfl HBQ.out rfl infoRef (rcs_one _ _ _ ho3 ho4) ?_; intro w2 hb2 hk2; have HR2 := Lib.hid (HN.out.store HBQ.out hk2); have HB2 := Lib.hid hb2; have HBR2 := Lib.hid (HBR.out.kp hk2 (fun e => by omega)); have HK2 := Lib.hid (HKN.out.trans_new hk2 (fun k e => .inl (by omega))); clear hb2 hk2) | (refine wpList_load_mid rfl 37 (.tmp 1) rfl w.heap.size 0 rfl (rcs (d.lose d.keep) va vb).toList _ (Box.range' (L := (rcs (d.lose d.keep) va vb).toList) HB2.out) Tryz.underlying37 rfl infoRef ?_) | (refine dwpList_store_box rfl 37 (.tmp 2) (.tmp 16) rfl (w.heap.size + 1) (rcs (d.lose d.keep) va vb).toList rfl rfl HBR2.out rfl infoRef (rcs_one _ _ _ ho3 ho4) ?_; intro w5 hb5 hk5) | fail)
    refine bodyPost_ret (v := .tuple #[.agg (rcs (d.lose d.keep) va vb), .int .i64 4]) ?_ rfl ⟨va, vb, rfl, HR2.out.store HBR2.out hk5, HK2.out.trans_new hk5 (fun k e => .inl (by omega))⟩
    exact dresults_two Hr.out _ _ (w.heap.size + 1) 37 _ (0, 0) _ rfl hb5 Tryz.underlying37 rfl infoRef
end Go.Proofs.YtfcljcikajaedaaGreatDoor
