/- An act of the law, in both ways: they answer alike. Conditions: the disk's own, two sectors at least; its numbers are small. -/
import Derived.Test.YtfcljcikajaedaaGreatDoorMg3
import Derived.Test.YtfcljcikajaedaaGreatDoorMg45
namespace Go.Proofs.YtfcljcikajaedaaGreatDoor
open Go.RowKit Go.Maps

theorem Nx.still {B : Nat} {w : World} {gs b : Nat} {d : Dm} {Bd : Nat} {W W' : World} (h : Nx B w gs b d Bd W) (hk : Kp (fun _ => False) W W') : Nx B w gs b d Bd W' := by
  obtain ⟨d', vo, vw, pl, ms, is, lg, h1, h2, h3⟩ := h
  exact ⟨d', vo, vw, pl, ms, is, lg, h1.still hk, h2.still hk, h3⟩
set_option maxRecDepth 100000 in
set_option maxHeartbeats 16000000 in
theorem rdoes_any {B : Nat} {w W : World} {gs b : Nat} {d : Dm} {vo vw pl : Value} {ms : List Value} {is : Bool} {lg : Option (Nat × Lm)} (h : Ks B w gs b d d vo vw pl ms is W) (hlg : LgO B b pl ms is lg W) (htw : Tbl w) (hBw : B = w.heap.size) (hw : d.wait.length + 20000 < 1073741824) (h2 : 2 ≤ d.on.length) {Bd : Nat} (hB : Bd + 100000 < 18446744073709551616) (hB1 : 1 ≤ Bd) (hgd : Good Bd d) (hlk : ∀ g l, lg = some (g, l) → Lk Bd d l) (x : Aw) (hx : x.Ok) :
    Calls Tryz.prog 8 #[.pointer (some ⟨gs, 0, none⟩), .agg x.cells] W fun e W' => e = .returned (.bool true) ∧ Nx B w gs b d Bd W' := by
  have OK := Lib.hid h.dk.ok
  obtain ⟨ga, hga⟩ : ∃ ga, W.heap.size = ga := ⟨_, rfl⟩
  obtain ⟨W1, hW1, ha1, hk1⟩ : ∃ W1, W1 = W.alloc (.cells x.cells 30) ∧ Box W1 ga 30 x.cells ∧ Kp (fun _ => False) W W1 := ⟨_, rfl, by rw [← hga]; exact Box.new W 30 x.cells, (Kp.refl _ W).alloc _⟩
  have SX := Lib.hid (h.still hk1)
  have GX := Lib.hid (hlg.still hk1)
  have AX := Lib.hid ha1
  have HTW := Lib.hid htw
  have HBW := Lib.hid hBw
  have HX := Lib.hid hx
  have HW1 := Lib.hid hW1
  have HGA := Lib.hid hga
  have DX := Lib.hid ((Kp.refl (fun _ => False) W1).drew)
  have z0 : W1.cell? ⟨ga, 0, none⟩ = some (.int .u8 x.d) := ha1.cell 0
  have z2 : W1.cell? ⟨ga, 2, none⟩ = some (.int .u8 x.c.toNat) := ha1.cell 2
  have hu8 := x.c.toNat_lt
  clear h hlg htw hBw hx hW1 ha1 hk1 hga
  go_enter Tryz.func8, Tryz.ntmps8
  go_upto_region 1 with fail
  rw [HGA.out, ← HW1.out]
  go_upto_block 0 with fail
  try simp only [Act.put]
  go_cut [5, 6] (fun p5 p6 wy => ∃ cc : Int, p5 = .int .i64 cc ∧ p6 = .int .i64 cc ∧ Nx B w gs b d Bd wy)
  case first =>
    by_cases d0 : x.d = 0
    · as_aux_lemma =>
        have b0 : (x.d == 0) = true := by simpa using d0
        clear d0
        rcases lg with _ | ⟨g, l⟩
        · have hi : is = false := GX.out
          subst hi
          have N0 : Nx B w gs b d Bd W1 := ⟨d, vo, vw, pl, ms, false, none, SX.out, GX.out, hgd.up (by omega), (fun g' l' e => (hlk g' l' e).up (by omega) rfl), rfl, by omega⟩
          obtain ⟨y0, y7, y16⟩ := SX.out.cells
          have N00 := Lib.hid N0
          clear hgd hlk N0
          go_wp2_with fail
          go_ret
          exact ⟨rfl, N00.out⟩
        · obtain ⟨hi, hp, hm, hgk⟩ := GX.out
          subst hi; subst hp; subst hm
          have GK := Lib.hid hgk
          have hl := hlk g l rfl
          obtain ⟨NG', NL'⟩ := hl.commit hgd OK.out (by omega) (by omega) x.text
          have hwc := wait_commitS l d x.text hl
          have hoc := on_commitS l d x.text hl
          have hp2 := fun (v : World) (hs : Ks B w gs b d d vo vw (.pointer (some ⟨g, 0, none⟩)) (mcs l ((l.h.n : Int) - l.left)) true v) (hg : Kg B g b l v) => commit_any (F := fun k => B ≤ k ∧ DT v k) hs.new (fun e => by have := halves_old HTW.out; have := e.1.1; have := HBW.out; omega) hs.dk.bothG (hs.tbl HTW.out HBW.out) hg.lg (hl.ok (by omega)) x.text (by have := x.text_lt; omega) (by omega)
          have hr2 := fun (v : World) (hr : Rf v vo vw d) => rcommit_any hr OK.out (by omega) Bd (by omega) l hl x.text (by have := x.text_lt; omega)
          obtain ⟨u1, hu⟩ : ∃ u1, ((l.commitS d x.text).1.h.n : Int) - (l.commitS d x.text).1.left = u1 := ⟨_, rfl⟩
          rw [hu] at hr2
          generalize l.commitS d x.text = T at *
          obtain ⟨l1, d1, e1⟩ := T
          dsimp only at hp2 hr2 NG' NL' hwc hoc hu
          have HP := Lib.hid hp2
          have HR := Lib.hid hr2
          have HU1 := Lib.hid hu
          have NG : Good (Bd + 700) d1 := NG'.up (by omega)
          have NL : Lk (Bd + 700) d1 l1 := NL'.up (by omega) rfl
          have NO : d1.on.length = d.on.length := hoc
          have NW : d1.wait.length ≤ d.wait.length + 1000 := by omega
          clear hp2 hr2 NG' NL' hwc hoc hu hgk hl hgd hlk
          obtain ⟨y0, y7, y16⟩ := SX.out.cells
          go_upto_region 9 with fail
          refine wp_region_held_drew (S := fun v => Box v gs 44 (scs b d vo vw (.pointer (some ⟨g, 0, none⟩)) (mcs l ((l.h.n : Int) - l.left)) true).toArray ∧ Box v ga 30 x.cells) (by kernel_rfl) (⟨SX.out.box.kp DX.out (fun e => e), AX.out.kp DX.out (fun e => e)⟩) (fun hHeld => ?_)
          refine tk 0 (h := ?_)
          refine tk 1 (h := ?_)
          refine tk 2 (h := ?_)
          refine tk 3 (v := ?_) (hy := ?_) (h := ?_)
          rotate_left
          · intro v hSw
            have y : v.cell? ⟨gs, 7, none⟩ = some (.pointer (some ⟨g, 0, none⟩)) := hSw.1.cell 7
            try dsimp only at hSw
            go_simp
            with_reducible rfl
          refine wpAnyH_take (i := 4) (oi := { dst := some 47, op := Op.load 30 (Operand.tmp 3), type := 30, pos := "law.go:93", after := #[], guard := none }) (v := _) rfl (by kernel_rfl) (by kernel_rfl) (by kernel_rfl) (fun _ _ _ h => h) (yieldsIf_load_mid (by rfl) _ _ rfl ga 0 rfl (x.cells.toList) _ (fun v hv => Box.range' (L := x.cells.toList) hv.2) Tryz.underlying30 rfl info_act) (by assumption) ?_
          try simp only [Act.put, List.setIfInBounds_toArray, List.set_cons_zero, List.set_cons_succ]
          refine rd 5 (h := fun K hK => ?_)
          go_simp
          refine (text_act x _).mono ?_
          rintro e w2 ⟨rfl, k2⟩
          have K2 := Lib.hid (DX.out.trans k2)
          clear k2
          go_wp2_with fail
          refine hK.out _ _ (⟨SX.out.box.kp K2.out (fun e => e), AX.out.kp K2.out (fun e => e)⟩) (fun hHeld66 => ?_)
          clear hK K
          try simp only [Act.put, List.setIfInBounds_toArray, List.set_cons_zero, List.set_cons_succ]
          refine rd 6 (h := fun K hK => ?_)
          go_simp
          refine (HP.out _ (SX.out.still K2.out) (GK.out.still K2.out)).mono ?_
          rintro e w3 ⟨rfl, hd3, hb3, hk3⟩
          have SY := Lib.hid ((SX.out.still K2.out).turn (GK.out.still K2.out).lg GK.out.gB hd3 hk3)
          have GL := Lib.hid (Kg.mk (l := l1) hb3 GK.out.gB)
          have AY := Lib.hid (Box.kp (AX.out.kp K2.out (fun e => e)) hk3 (fun e => by
            rcases e with e | e
            · exact not_DT (AX.out.kp K2.out (fun e => e)) ⟨by decide, by decide, by decide⟩ e.2
            · exact ne_type (GK.out.still K2.out).lg (AX.out.kp K2.out (fun e => e)) (by decide) e))
          clear hd3 hb3 hk3
          go_wp2_with fail
          refine hK.out _ _ (⟨SY.out.box, AY.out⟩) (fun hHeld67 => ?_)
          clear hK K
          try simp only [Act.put, List.setIfInBounds_toArray, List.set_cons_zero, List.set_cons_succ]
          refine tk 7 (h := ?_)
          refine wpAnyH_done (by kernel_rfl) ?_ _
          have DY := Lib.hid ((Kp.refl (fun _ => False) w3).drew)
          go_upto_region 10 with fail
          refine wp_region_held_drew (S := fun v => Box v ga 30 x.cells) (by kernel_rfl) (AY.out.kp DY.out (fun e => e)) (fun hHeld => ?_)
          refine tk 0 (h := ?_)
          refine tk 1 (h := ?_)
          refine tk 2 (h := ?_)
          refine tk 3 (h := ?_)
          refine tk 4 (h := ?_)
          refine tk 6 (h := ?_)
          refine tk 7 (h := ?_)
          refine tk 8 (h := ?_)
          refine wpAnyH_take (i := 10) (oi := { dst := some 61, op := Op.load 30 (Operand.tmp 3), type := 30, pos := "law.go:94", after := #[], guard := none }) (v := _) rfl (by kernel_rfl) (by kernel_rfl) (by kernel_rfl) (fun _ _ _ h => h) (yieldsIf_load_mid (by rfl) _ _ rfl ga 0 rfl (x.cells.toList) _ (fun v hv => Box.range' (L := x.cells.toList) hv) Tryz.underlying30 rfl info_act) (by assumption) ?_
          try simp only [Act.put, List.setIfInBounds_toArray, List.set_cons_zero, List.set_cons_succ]
          refine wpAnyH_ready (rs := [5, 9, 11]) (by kernel_rfl) (by simp) ?_
          refine (rdc 5 (h := fun K hK => ?_) (hs := rdc 9 (h := fun K hK => ?_) (hs := rdc 11 (h := fun K hK => ?_) (hs := AllReadyH.nil))))
          · rw [if_pos (by rfl)]
            refine wp_load_mid 42 (.tmp 55) rfl gs 8 rfl (mcs l ((l.h.n : Int) - l.left)) _ (SY.out.still (DY.out)).lbox Tryz.underlying42 rfl info_rlog ?_
            refine hK.out _ _ (AY.out.kp (DY.out) (fun e => e)) (fun hHeld68 => ?_)
            clear hK K
            try simp only [Act.put, List.setIfInBounds_toArray, List.set_cons_zero, List.set_cons_succ]
            refine wpAnyH_ready (rs := [9, 11]) (by kernel_rfl) (by simp) ?_
            refine (rdc 9 (h := fun K hK => ?_) (hs := rdc 11 (h := fun K hK => ?_) (hs := AllReadyH.nil)))
            · rw [if_pos (by rfl)]
              refine wp_load_mid 37 (.tmp 59) rfl gs 1 rfl (rcs d vo vw).toList _ (SY.out.still (DY.out)).dbox Tryz.underlying37 rfl infoRef ?_
              refine hK.out _ _ (AY.out.kp (DY.out) (fun e => e)) (fun hHeld69 => ?_)
              clear hK K
              try simp only [Act.put, List.setIfInBounds_toArray, List.set_cons_zero, List.set_cons_succ]
              refine rd 11 (h := fun K hK => ?_)
              go_simp
              refine (text_act x _).mono ?_
              rintro e x1 ⟨rfl, kc⟩
              have KN1 := Lib.hid ((DY.out).trans kc)
              clear kc
              go_wp2_with fail
              refine hK.out _ _ (AY.out.kp (KN1.out) (fun e => e)) (fun hHeld70 => ?_)
              clear hK K
              try simp only [Act.put, List.setIfInBounds_toArray, List.set_cons_zero, List.set_cons_succ]
              refine rd 12 (h := fun K hK => ?_)
              go_simp
              refine (HR.out _ (SY.out.rf.still (KN1.out))).mono ?_
              rintro e x2 ⟨va, vb, rfl, r7, kc⟩
              have KN2 := Lib.hid ((KN1.out).trans kc)
              have R7 := Lib.hid (r7)
              clear r7
              clear kc
              go_wp2_with fail
              refine hK.out _ _ (AY.out.kp (KN2.out) (fun e => e)) (fun hHeld71 => ?_)
              clear hK K
              try simp only [Act.put, List.setIfInBounds_toArray, List.set_cons_zero, List.set_cons_succ]
              refine tk 13 (h := ?_)
              refine tk 14 (h := ?_)
              refine tk 15 (h := ?_)
              refine tk 16 (h := ?_)
              refine tk 17 (h := ?_)
              refine tk 18 (h := ?_)
              refine rd 19 (h := fun K hK => ?_)
              rw [if_pos (by rfl)]
              have hs0 := SY.out.still (KN2.out)
              have hg0 := GL.out.still (KN2.out)
              have ha0 := AY.out.kp (KN2.out) (fun e => e)
              refine wp_store_part 42 (.tmp 68) (.tmp 64) rfl gs (.pointer (some ⟨b, 0, none⟩) :: (rcs d vo vw).toList ++ [.pointer (some ⟨g, 0, none⟩)]) (mcs l ((l.h.n : Int) - l.left)) (mcs l1 u1) [.bool true] rfl rfl hs0.box rfl info_rlog (mcs_one _ _) ?_
              intro w4 hb4 hk4
              have SM := Lib.hid (hs0.told (ms' := mcs l1 u1) hb4 rfl hs0.rf hk4)
              have GM := Lib.hid (hg0.told hs0.box hk4)
              have R8 := Lib.hid (R7.out.kp hk4 (fun q cs fr e1 e2 => by rcases e1 with e1 | e1 <;> exact type_off e1 hs0.box (by decide) e2))
              have AM := Lib.hid (ha0.kp hk4 (fun e => ne_type hs0.box ha0 (by decide) e))
              clear hb4 hk4 hs0 hg0 ha0
              refine hK.out _ _ (AM.out) (fun hHeld72 => ?_)
              clear hK K
              try simp only [Act.put]
              refine tk 20 (h := ?_)
              refine tk 21 (h := ?_)
              refine rd 22 (h := fun K hK => ?_)
              rw [if_pos (by rfl)]
              refine wp_store_part 37 (.tmp 70) (.tmp 65) rfl gs [.pointer (some ⟨b, 0, none⟩)] (rcs d vo vw).toList (rcs d1 va vb).toList (.pointer (some ⟨g, 0, none⟩) :: mcs l1 u1 ++ [.bool true]) rfl rfl SM.out.box rfl infoRef (rcs_one _ _ _ R8.out.c1.1 R8.out.c1.2) ?_
              intro w5 hb5 hk5
              have SZ := Lib.hid (SM.out.told hb5 rfl R8.out hk5)
              have GZ := Lib.hid (GM.out.told SM.out.box hk5)
              have AZ := Lib.hid (AM.out.kp hk5 (fun e => ne_type SM.out.box AM.out (by decide) e))
              clear hb5 hk5
              refine hK.out _ _ (AZ.out) (fun hHeld73 => ?_)
              clear hK K
              try simp only [Act.put]
              refine tk 23 (h := ?_)
              refine wpAnyH_done (by kernel_rfl) ?_ _
              go_wp2_with fail
              go_meet
              exact ⟨_, rfl, rfl, d1, va, vb, _, _, true, some (g, l1), SZ.out, ⟨rfl, rfl, HU1.out ▸ rfl, GZ.out⟩, NG, (fun g' l' e => by injection e with e; injection e with _ e; subst e; exact NL), NO, NW⟩
            · go_simp
              refine (text_act x _).mono ?_
              rintro e x3 ⟨rfl, kc⟩
              have KN3 := Lib.hid ((DY.out).trans kc)
              clear kc
              go_wp2_with fail
              refine hK.out _ _ (AY.out.kp (KN3.out) (fun e => e)) (fun hHeld74 => ?_)
              clear hK K
              try simp only [Act.put, List.setIfInBounds_toArray, List.set_cons_zero, List.set_cons_succ]
              refine rd 9 (h := fun K hK => ?_)
              rw [if_pos (by rfl)]
              refine wp_load_mid 37 (.tmp 59) rfl gs 1 rfl (rcs d vo vw).toList _ (SY.out.still (KN3.out)).dbox Tryz.underlying37 rfl infoRef ?_
              refine hK.out _ _ (AY.out.kp (KN3.out) (fun e => e)) (fun hHeld75 => ?_)
              clear hK K
              try simp only [Act.put, List.setIfInBounds_toArray, List.set_cons_zero, List.set_cons_succ]
              refine rd 12 (h := fun K hK => ?_)
              go_simp
              refine (HR.out _ (SY.out.rf.still (KN3.out))).mono ?_
              rintro e x4 ⟨va, vb, rfl, r7, kc⟩
              have KN4 := Lib.hid ((KN3.out).trans kc)
              have R7 := Lib.hid (r7)
              clear r7
              clear kc
              go_wp2_with fail
              refine hK.out _ _ (AY.out.kp (KN4.out) (fun e => e)) (fun hHeld76 => ?_)
              clear hK K
              try simp only [Act.put, List.setIfInBounds_toArray, List.set_cons_zero, List.set_cons_succ]
              refine tk 13 (h := ?_)
              refine tk 14 (h := ?_)
              refine tk 15 (h := ?_)
              refine tk 16 (h := ?_)
              refine tk 17 (h := ?_)
              refine tk 18 (h := ?_)
              refine rd 19 (h := fun K hK => ?_)
              rw [if_pos (by rfl)]
              have hs0 := SY.out.still (KN4.out)
              have hg0 := GL.out.still (KN4.out)
              have ha0 := AY.out.kp (KN4.out) (fun e => e)
              refine wp_store_part 42 (.tmp 68) (.tmp 64) rfl gs (.pointer (some ⟨b, 0, none⟩) :: (rcs d vo vw).toList ++ [.pointer (some ⟨g, 0, none⟩)]) (mcs l ((l.h.n : Int) - l.left)) (mcs l1 u1) [.bool true] rfl rfl hs0.box rfl info_rlog (mcs_one _ _) ?_
              intro w4 hb4 hk4
              have SM := Lib.hid (hs0.told (ms' := mcs l1 u1) hb4 rfl hs0.rf hk4)
              have GM := Lib.hid (hg0.told hs0.box hk4)
              have R8 := Lib.hid (R7.out.kp hk4 (fun q cs fr e1 e2 => by rcases e1 with e1 | e1 <;> exact type_off e1 hs0.box (by decide) e2))
              have AM := Lib.hid (ha0.kp hk4 (fun e => ne_type hs0.box ha0 (by decide) e))
              clear hb4 hk4 hs0 hg0 ha0
              refine hK.out _ _ (AM.out) (fun hHeld77 => ?_)
              clear hK K
              try simp only [Act.put]
              refine tk 20 (h := ?_)
              refine tk 21 (h := ?_)
              refine rd 22 (h := fun K hK => ?_)
              rw [if_pos (by rfl)]
              refine wp_store_part 37 (.tmp 70) (.tmp 65) rfl gs [.pointer (some ⟨b, 0, none⟩)] (rcs d vo vw).toList (rcs d1 va vb).toList (.pointer (some ⟨g, 0, none⟩) :: mcs l1 u1 ++ [.bool true]) rfl rfl SM.out.box rfl infoRef (rcs_one _ _ _ R8.out.c1.1 R8.out.c1.2) ?_
              intro w5 hb5 hk5
              have SZ := Lib.hid (SM.out.told hb5 rfl R8.out hk5)
              have GZ := Lib.hid (GM.out.told SM.out.box hk5)
              have AZ := Lib.hid (AM.out.kp hk5 (fun e => ne_type SM.out.box AM.out (by decide) e))
              clear hb5 hk5
              refine hK.out _ _ (AZ.out) (fun hHeld78 => ?_)
              clear hK K
              try simp only [Act.put]
              refine tk 23 (h := ?_)
              refine wpAnyH_done (by kernel_rfl) ?_ _
              go_wp2_with fail
              go_meet
              exact ⟨_, rfl, rfl, d1, va, vb, _, _, true, some (g, l1), SZ.out, ⟨rfl, rfl, HU1.out ▸ rfl, GZ.out⟩, NG, (fun g' l' e => by injection e with e; injection e with _ e; subst e; exact NL), NO, NW⟩
          · rw [if_pos (by rfl)]
            refine wp_load_mid 37 (.tmp 59) rfl gs 1 rfl (rcs d vo vw).toList _ (SY.out.still (DY.out)).dbox Tryz.underlying37 rfl infoRef ?_
            refine hK.out _ _ (AY.out.kp (DY.out) (fun e => e)) (fun hHeld79 => ?_)
            clear hK K
            try simp only [Act.put, List.setIfInBounds_toArray, List.set_cons_zero, List.set_cons_succ]
            refine wpAnyH_ready (rs := [5, 11]) (by kernel_rfl) (by simp) ?_
            refine (rdc 5 (h := fun K hK => ?_) (hs := rdc 11 (h := fun K hK => ?_) (hs := AllReadyH.nil)))
            · rw [if_pos (by rfl)]
              refine wp_load_mid 42 (.tmp 55) rfl gs 8 rfl (mcs l ((l.h.n : Int) - l.left)) _ (SY.out.still (DY.out)).lbox Tryz.underlying42 rfl info_rlog ?_
              refine hK.out _ _ (AY.out.kp (DY.out) (fun e => e)) (fun hHeld80 => ?_)
              clear hK K
              try simp only [Act.put, List.setIfInBounds_toArray, List.set_cons_zero, List.set_cons_succ]
              refine rd 11 (h := fun K hK => ?_)
              go_simp
              refine (text_act x _).mono ?_
              rintro e x5 ⟨rfl, kc⟩
              have KN5 := Lib.hid ((DY.out).trans kc)
              clear kc
              go_wp2_with fail
              refine hK.out _ _ (AY.out.kp (KN5.out) (fun e => e)) (fun hHeld81 => ?_)
              clear hK K
              try simp only [Act.put, List.setIfInBounds_toArray, List.set_cons_zero, List.set_cons_succ]
              refine rd 12 (h := fun K hK => ?_)
              go_simp
              refine (HR.out _ (SY.out.rf.still (KN5.out))).mono ?_
              rintro e x6 ⟨va, vb, rfl, r7, kc⟩
              have KN6 := Lib.hid ((KN5.out).trans kc)
              have R7 := Lib.hid (r7)
              clear r7
              clear kc
              go_wp2_with fail
              refine hK.out _ _ (AY.out.kp (KN6.out) (fun e => e)) (fun hHeld82 => ?_)
              clear hK K
              try simp only [Act.put, List.setIfInBounds_toArray, List.set_cons_zero, List.set_cons_succ]
              refine tk 13 (h := ?_)
              refine tk 14 (h := ?_)
              refine tk 15 (h := ?_)
              refine tk 16 (h := ?_)
              refine tk 17 (h := ?_)
              refine tk 18 (h := ?_)
              refine rd 19 (h := fun K hK => ?_)
              rw [if_pos (by rfl)]
              have hs0 := SY.out.still (KN6.out)
              have hg0 := GL.out.still (KN6.out)
              have ha0 := AY.out.kp (KN6.out) (fun e => e)
              refine wp_store_part 42 (.tmp 68) (.tmp 64) rfl gs (.pointer (some ⟨b, 0, none⟩) :: (rcs d vo vw).toList ++ [.pointer (some ⟨g, 0, none⟩)]) (mcs l ((l.h.n : Int) - l.left)) (mcs l1 u1) [.bool true] rfl rfl hs0.box rfl info_rlog (mcs_one _ _) ?_
              intro w4 hb4 hk4
              have SM := Lib.hid (hs0.told (ms' := mcs l1 u1) hb4 rfl hs0.rf hk4)
              have GM := Lib.hid (hg0.told hs0.box hk4)
              have R8 := Lib.hid (R7.out.kp hk4 (fun q cs fr e1 e2 => by rcases e1 with e1 | e1 <;> exact type_off e1 hs0.box (by decide) e2))
              have AM := Lib.hid (ha0.kp hk4 (fun e => ne_type hs0.box ha0 (by decide) e))
              clear hb4 hk4 hs0 hg0 ha0
              refine hK.out _ _ (AM.out) (fun hHeld83 => ?_)
              clear hK K
              try simp only [Act.put]
              refine tk 20 (h := ?_)
              refine tk 21 (h := ?_)
              refine rd 22 (h := fun K hK => ?_)
              rw [if_pos (by rfl)]
              refine wp_store_part 37 (.tmp 70) (.tmp 65) rfl gs [.pointer (some ⟨b, 0, none⟩)] (rcs d vo vw).toList (rcs d1 va vb).toList (.pointer (some ⟨g, 0, none⟩) :: mcs l1 u1 ++ [.bool true]) rfl rfl SM.out.box rfl infoRef (rcs_one _ _ _ R8.out.c1.1 R8.out.c1.2) ?_
              intro w5 hb5 hk5
              have SZ := Lib.hid (SM.out.told hb5 rfl R8.out hk5)
              have GZ := Lib.hid (GM.out.told SM.out.box hk5)
              have AZ := Lib.hid (AM.out.kp hk5 (fun e => ne_type SM.out.box AM.out (by decide) e))
              clear hb5 hk5
              refine hK.out _ _ (AZ.out) (fun hHeld84 => ?_)
              clear hK K
              try simp only [Act.put]
              refine tk 23 (h := ?_)
              refine wpAnyH_done (by kernel_rfl) ?_ _
              go_wp2_with fail
              go_meet
              exact ⟨_, rfl, rfl, d1, va, vb, _, _, true, some (g, l1), SZ.out, ⟨rfl, rfl, HU1.out ▸ rfl, GZ.out⟩, NG, (fun g' l' e => by injection e with e; injection e with _ e; subst e; exact NL), NO, NW⟩
            · go_simp
              refine (text_act x _).mono ?_
              rintro e x7 ⟨rfl, kc⟩
              have KN7 := Lib.hid ((DY.out).trans kc)
              clear kc
              go_wp2_with fail
              refine hK.out _ _ (AY.out.kp (KN7.out) (fun e => e)) (fun hHeld85 => ?_)
              clear hK K
              try simp only [Act.put, List.setIfInBounds_toArray, List.set_cons_zero, List.set_cons_succ]
              refine rd 5 (h := fun K hK => ?_)
              rw [if_pos (by rfl)]
              refine wp_load_mid 42 (.tmp 55) rfl gs 8 rfl (mcs l ((l.h.n : Int) - l.left)) _ (SY.out.still (KN7.out)).lbox Tryz.underlying42 rfl info_rlog ?_
              refine hK.out _ _ (AY.out.kp (KN7.out) (fun e => e)) (fun hHeld86 => ?_)
              clear hK K
              try simp only [Act.put, List.setIfInBounds_toArray, List.set_cons_zero, List.set_cons_succ]
              refine rd 12 (h := fun K hK => ?_)
              go_simp
              refine (HR.out _ (SY.out.rf.still (KN7.out))).mono ?_
              rintro e x8 ⟨va, vb, rfl, r7, kc⟩
              have KN8 := Lib.hid ((KN7.out).trans kc)
              have R7 := Lib.hid (r7)
              clear r7
              clear kc
              go_wp2_with fail
              refine hK.out _ _ (AY.out.kp (KN8.out) (fun e => e)) (fun hHeld87 => ?_)
              clear hK K
              try simp only [Act.put, List.setIfInBounds_toArray, List.set_cons_zero, List.set_cons_succ]
              refine tk 13 (h := ?_)
              refine tk 14 (h := ?_)
              refine tk 15 (h := ?_)
              refine tk 16 (h := ?_)
              refine tk 17 (h := ?_)
              refine tk 18 (h := ?_)
              refine rd 19 (h := fun K hK => ?_)
              rw [if_pos (by rfl)]
              have hs0 := SY.out.still (KN8.out)
              have hg0 := GL.out.still (KN8.out)
              have ha0 := AY.out.kp (KN8.out) (fun e => e)
              refine wp_store_part 42 (.tmp 68) (.tmp 64) rfl gs (.pointer (some ⟨b, 0, none⟩) :: (rcs d vo vw).toList ++ [.pointer (some ⟨g, 0, none⟩)]) (mcs l ((l.h.n : Int) - l.left)) (mcs l1 u1) [.bool true] rfl rfl hs0.box rfl info_rlog (mcs_one _ _) ?_
              intro w4 hb4 hk4
              have SM := Lib.hid (hs0.told (ms' := mcs l1 u1) hb4 rfl hs0.rf hk4)
              have GM := Lib.hid (hg0.told hs0.box hk4)
              have R8 := Lib.hid (R7.out.kp hk4 (fun q cs fr e1 e2 => by rcases e1 with e1 | e1 <;> exact type_off e1 hs0.box (by decide) e2))
              have AM := Lib.hid (ha0.kp hk4 (fun e => ne_type hs0.box ha0 (by decide) e))
              clear hb4 hk4 hs0 hg0 ha0
              refine hK.out _ _ (AM.out) (fun hHeld88 => ?_)
              clear hK K
              try simp only [Act.put]
              refine tk 20 (h := ?_)
              refine tk 21 (h := ?_)
              refine rd 22 (h := fun K hK => ?_)
              rw [if_pos (by rfl)]
              refine wp_store_part 37 (.tmp 70) (.tmp 65) rfl gs [.pointer (some ⟨b, 0, none⟩)] (rcs d vo vw).toList (rcs d1 va vb).toList (.pointer (some ⟨g, 0, none⟩) :: mcs l1 u1 ++ [.bool true]) rfl rfl SM.out.box rfl infoRef (rcs_one _ _ _ R8.out.c1.1 R8.out.c1.2) ?_
              intro w5 hb5 hk5
              have SZ := Lib.hid (SM.out.told hb5 rfl R8.out hk5)
              have GZ := Lib.hid (GM.out.told SM.out.box hk5)
              have AZ := Lib.hid (AM.out.kp hk5 (fun e => ne_type SM.out.box AM.out (by decide) e))
              clear hb5 hk5
              refine hK.out _ _ (AZ.out) (fun hHeld89 => ?_)
              clear hK K
              try simp only [Act.put]
              refine tk 23 (h := ?_)
              refine wpAnyH_done (by kernel_rfl) ?_ _
              go_wp2_with fail
              go_meet
              exact ⟨_, rfl, rfl, d1, va, vb, _, _, true, some (g, l1), SZ.out, ⟨rfl, rfl, HU1.out ▸ rfl, GZ.out⟩, NG, (fun g' l' e => by injection e with e; injection e with _ e; subst e; exact NL), NO, NW⟩
          · go_simp
            refine (text_act x _).mono ?_
            rintro e x9 ⟨rfl, kc⟩
            have KN9 := Lib.hid ((DY.out).trans kc)
            clear kc
            go_wp2_with fail
            refine hK.out _ _ (AY.out.kp (KN9.out) (fun e => e)) (fun hHeld90 => ?_)
            clear hK K
            try simp only [Act.put, List.setIfInBounds_toArray, List.set_cons_zero, List.set_cons_succ]
            refine wpAnyH_ready (rs := [5, 9]) (by kernel_rfl) (by simp) ?_
            refine (rdc 5 (h := fun K hK => ?_) (hs := rdc 9 (h := fun K hK => ?_) (hs := AllReadyH.nil)))
            · rw [if_pos (by rfl)]
              refine wp_load_mid 42 (.tmp 55) rfl gs 8 rfl (mcs l ((l.h.n : Int) - l.left)) _ (SY.out.still (KN9.out)).lbox Tryz.underlying42 rfl info_rlog ?_
              refine hK.out _ _ (AY.out.kp (KN9.out) (fun e => e)) (fun hHeld91 => ?_)
              clear hK K
              try simp only [Act.put, List.setIfInBounds_toArray, List.set_cons_zero, List.set_cons_succ]
              refine rd 9 (h := fun K hK => ?_)
              rw [if_pos (by rfl)]
              refine wp_load_mid 37 (.tmp 59) rfl gs 1 rfl (rcs d vo vw).toList _ (SY.out.still (KN9.out)).dbox Tryz.underlying37 rfl infoRef ?_
              refine hK.out _ _ (AY.out.kp (KN9.out) (fun e => e)) (fun hHeld92 => ?_)
              clear hK K
              try simp only [Act.put, List.setIfInBounds_toArray, List.set_cons_zero, List.set_cons_succ]
              refine rd 12 (h := fun K hK => ?_)
              go_simp
              refine (HR.out _ (SY.out.rf.still (KN9.out))).mono ?_
              rintro e x10 ⟨va, vb, rfl, r7, kc⟩
              have KN10 := Lib.hid ((KN9.out).trans kc)
              have R7 := Lib.hid (r7)
              clear r7
              clear kc
              go_wp2_with fail
              refine hK.out _ _ (AY.out.kp (KN10.out) (fun e => e)) (fun hHeld93 => ?_)
              clear hK K
              try simp only [Act.put, List.setIfInBounds_toArray, List.set_cons_zero, List.set_cons_succ]
              refine tk 13 (h := ?_)
              refine tk 14 (h := ?_)
              refine tk 15 (h := ?_)
              refine tk 16 (h := ?_)
              refine tk 17 (h := ?_)
              refine tk 18 (h := ?_)
              refine rd 19 (h := fun K hK => ?_)
              rw [if_pos (by rfl)]
              have hs0 := SY.out.still (KN10.out)
              have hg0 := GL.out.still (KN10.out)
              have ha0 := AY.out.kp (KN10.out) (fun e => e)
              refine wp_store_part 42 (.tmp 68) (.tmp 64) rfl gs (.pointer (some ⟨b, 0, none⟩) :: (rcs d vo vw).toList ++ [.pointer (some ⟨g, 0, none⟩)]) (mcs l ((l.h.n : Int) - l.left)) (mcs l1 u1) [.bool true] rfl rfl hs0.box rfl info_rlog (mcs_one _ _) ?_
              intro w4 hb4 hk4
              have SM := Lib.hid (hs0.told (ms' := mcs l1 u1) hb4 rfl hs0.rf hk4)
              have GM := Lib.hid (hg0.told hs0.box hk4)
              have R8 := Lib.hid (R7.out.kp hk4 (fun q cs fr e1 e2 => by rcases e1 with e1 | e1 <;> exact type_off e1 hs0.box (by decide) e2))
              have AM := Lib.hid (ha0.kp hk4 (fun e => ne_type hs0.box ha0 (by decide) e))
              clear hb4 hk4 hs0 hg0 ha0
              refine hK.out _ _ (AM.out) (fun hHeld94 => ?_)
              clear hK K
              try simp only [Act.put]
              refine tk 20 (h := ?_)
              refine tk 21 (h := ?_)
              refine rd 22 (h := fun K hK => ?_)
              rw [if_pos (by rfl)]
              refine wp_store_part 37 (.tmp 70) (.tmp 65) rfl gs [.pointer (some ⟨b, 0, none⟩)] (rcs d vo vw).toList (rcs d1 va vb).toList (.pointer (some ⟨g, 0, none⟩) :: mcs l1 u1 ++ [.bool true]) rfl rfl SM.out.box rfl infoRef (rcs_one _ _ _ R8.out.c1.1 R8.out.c1.2) ?_
              intro w5 hb5 hk5
              have SZ := Lib.hid (SM.out.told hb5 rfl R8.out hk5)
              have GZ := Lib.hid (GM.out.told SM.out.box hk5)
              have AZ := Lib.hid (AM.out.kp hk5 (fun e => ne_type SM.out.box AM.out (by decide) e))
              clear hb5 hk5
              refine hK.out _ _ (AZ.out) (fun hHeld95 => ?_)
              clear hK K
              try simp only [Act.put]
              refine tk 23 (h := ?_)
              refine wpAnyH_done (by kernel_rfl) ?_ _
              go_wp2_with fail
              go_meet
              exact ⟨_, rfl, rfl, d1, va, vb, _, _, true, some (g, l1), SZ.out, ⟨rfl, rfl, HU1.out ▸ rfl, GZ.out⟩, NG, (fun g' l' e => by injection e with e; injection e with _ e; subst e; exact NL), NO, NW⟩
            · rw [if_pos (by rfl)]
              refine wp_load_mid 37 (.tmp 59) rfl gs 1 rfl (rcs d vo vw).toList _ (SY.out.still (KN9.out)).dbox Tryz.underlying37 rfl infoRef ?_
              refine hK.out _ _ (AY.out.kp (KN9.out) (fun e => e)) (fun hHeld96 => ?_)
              clear hK K
              try simp only [Act.put, List.setIfInBounds_toArray, List.set_cons_zero, List.set_cons_succ]
              refine rd 5 (h := fun K hK => ?_)
              rw [if_pos (by rfl)]
              refine wp_load_mid 42 (.tmp 55) rfl gs 8 rfl (mcs l ((l.h.n : Int) - l.left)) _ (SY.out.still (KN9.out)).lbox Tryz.underlying42 rfl info_rlog ?_
              refine hK.out _ _ (AY.out.kp (KN9.out) (fun e => e)) (fun hHeld97 => ?_)
              clear hK K
              try simp only [Act.put, List.setIfInBounds_toArray, List.set_cons_zero, List.set_cons_succ]
              refine rd 12 (h := fun K hK => ?_)
              go_simp
              refine (HR.out _ (SY.out.rf.still (KN9.out))).mono ?_
              rintro e x11 ⟨va, vb, rfl, r7, kc⟩
              have KN11 := Lib.hid ((KN9.out).trans kc)
              have R7 := Lib.hid (r7)
              clear r7
              clear kc
              go_wp2_with fail
              refine hK.out _ _ (AY.out.kp (KN11.out) (fun e => e)) (fun hHeld98 => ?_)
              clear hK K
              try simp only [Act.put, List.setIfInBounds_toArray, List.set_cons_zero, List.set_cons_succ]
              refine tk 13 (h := ?_)
              refine tk 14 (h := ?_)
              refine tk 15 (h := ?_)
              refine tk 16 (h := ?_)
              refine tk 17 (h := ?_)
              refine tk 18 (h := ?_)
              refine rd 19 (h := fun K hK => ?_)
              rw [if_pos (by rfl)]
              have hs0 := SY.out.still (KN11.out)
              have hg0 := GL.out.still (KN11.out)
              have ha0 := AY.out.kp (KN11.out) (fun e => e)
              refine wp_store_part 42 (.tmp 68) (.tmp 64) rfl gs (.pointer (some ⟨b, 0, none⟩) :: (rcs d vo vw).toList ++ [.pointer (some ⟨g, 0, none⟩)]) (mcs l ((l.h.n : Int) - l.left)) (mcs l1 u1) [.bool true] rfl rfl hs0.box rfl info_rlog (mcs_one _ _) ?_
              intro w4 hb4 hk4
              have SM := Lib.hid (hs0.told (ms' := mcs l1 u1) hb4 rfl hs0.rf hk4)
              have GM := Lib.hid (hg0.told hs0.box hk4)
              have R8 := Lib.hid (R7.out.kp hk4 (fun q cs fr e1 e2 => by rcases e1 with e1 | e1 <;> exact type_off e1 hs0.box (by decide) e2))
              have AM := Lib.hid (ha0.kp hk4 (fun e => ne_type hs0.box ha0 (by decide) e))
              clear hb4 hk4 hs0 hg0 ha0
              refine hK.out _ _ (AM.out) (fun hHeld99 => ?_)
              clear hK K
              try simp only [Act.put]
              refine tk 20 (h := ?_)
              refine tk 21 (h := ?_)
              refine rd 22 (h := fun K hK => ?_)
              rw [if_pos (by rfl)]
              refine wp_store_part 37 (.tmp 70) (.tmp 65) rfl gs [.pointer (some ⟨b, 0, none⟩)] (rcs d vo vw).toList (rcs d1 va vb).toList (.pointer (some ⟨g, 0, none⟩) :: mcs l1 u1 ++ [.bool true]) rfl rfl SM.out.box rfl infoRef (rcs_one _ _ _ R8.out.c1.1 R8.out.c1.2) ?_
              intro w5 hb5 hk5
              have SZ := Lib.hid (SM.out.told hb5 rfl R8.out hk5)
              have GZ := Lib.hid (GM.out.told SM.out.box hk5)
              have AZ := Lib.hid (AM.out.kp hk5 (fun e => ne_type SM.out.box AM.out (by decide) e))
              clear hb5 hk5
              refine hK.out _ _ (AZ.out) (fun hHeld100 => ?_)
              clear hK K
              try simp only [Act.put]
              refine tk 23 (h := ?_)
              refine wpAnyH_done (by kernel_rfl) ?_ _
              go_wp2_with fail
              go_meet
              exact ⟨_, rfl, rfl, d1, va, vb, _, _, true, some (g, l1), SZ.out, ⟨rfl, rfl, HU1.out ▸ rfl, GZ.out⟩, NG, (fun g' l' e => by injection e with e; injection e with _ e; subst e; exact NL), NO, NW⟩


    by_cases d1 : x.d = 1
    · as_aux_lemma =>
        have b0 : (x.d == 0) = false := by simpa using d0
        have b1 : (x.d == 1) = true := by simpa using d1
        clear d0 d1
        obtain ⟨y0, y7, y16⟩ := SX.out.cells
        rcases lg with _ | ⟨g, l⟩
        · have hi : is = false := GX.out
          subst hi
          have N0 : ∀ v, Kp (fun _ => False) W1 v → Nx B w gs b d Bd v := fun v kv => ⟨d, vo, vw, pl, ms, false, none, SX.out.still kv, rfl, hgd.up (by omega), (fun g' l' e => by cases e), rfl, by omega⟩
          have HN0 := Lib.hid (N0 W1 (Kp.refl _ W1))
          clear hgd hlk N0
          go_wp2_with fail
          go_meet
          exact ⟨_, rfl, rfl, HN0.out⟩
        · obtain ⟨hi, hp, hm, hgk⟩ := GX.out
          subst hi; subst hp; subst hm
          have hl := hlk g l rfl
          have HT := Lib.hid (trims_any SX.out hgk (SX.out.tbl HTW.out HBW.out) (by omega) (by omega) hgd hl)
          have N1 : ∀ v, (∃ va vb, Ks B w gs b (l.trimS d).2.1 (l.trimS d).2.1 va vb (.pointer (some ⟨g, 0, none⟩)) (mcs (l.trimS d).1 (((l.trimS d).1.h.n : Int) - (l.trimS d).1.left)) true v ∧ Kg B g b (l.trimS d).1 v) → Nx B w gs b d Bd v := fun v ⟨va, vb, s6, g6⟩ => trims_next hl hgd OK.out (by omega) (by omega) s6 g6
          have HN1 := Lib.hid N1
          clear hgd hlk N1 hgk hl
          go_wp2_with fail
          refine HT.out.mono ?_
          rintro e w6 ⟨rfl, hx6⟩
          have N6 := Lib.hid (HN1.out w6 hx6)
          clear hx6
          go_wp2_with fail
          go_meet
          exact ⟨_, rfl, rfl, N6.out⟩


    by_cases d2 : x.d = 2
    · as_aux_lemma =>
        have b0 : (x.d == 0) = false := by simpa using d0
        have b1 : (x.d == 1) = false := by simpa using d1
        have b2 : (x.d == 2) = true := by simpa using d2
        clear d0 d1 d2
        obtain ⟨tb, htb⟩ : ∃ tb, decide ((x.c.toNat : Int).tmod 2 = 1) = tb := ⟨_, rfl⟩
        have HOP := Lib.hid (opens_next SX.out HTW.out HBW.out (by omega) h2 (by omega) hgd tb)
        obtain ⟨cn, hcn⟩ : ∃ cn : Nat, x.c.toNat = cn := ⟨_, rfl⟩
        rw [hcn] at z2 htb hu8
        obtain ⟨r, hr⟩ : ∃ r, (cn : Int).tmod 2 = r := ⟨_, rfl⟩
        rw [hr] at htb
        have hrt : (r == 1) = tb := by rw [← htb]; by_cases h : r = 1 <;> simp [h]
        have HU8 := Lib.hid hu8
        clear hgd hlk htb hcn hu8
        go_wp2_with fail
        refine HOP.out.mono ?_
        rintro e w6 ⟨rfl, hx6⟩
        have N6 := Lib.hid hx6
        clear hx6
        go_wp2_with fail
        go_meet
        exact ⟨_, rfl, rfl, N6.out⟩


    by_cases d3 : x.d = 3
    · as_aux_lemma =>
        have b0 : (x.d == 0) = false := by simpa using d0
        have b1 : (x.d == 1) = false := by simpa using d1
        have b2 : (x.d == 2) = false := by simpa using d2
        have b3 : (x.d == 3) = true := by simpa using d3
        clear d0 d1 d2 d3
        have hp2 := fun (v : World) (hs : Ks B w gs b d d vo vw pl ms is v) => fuse_any hs.dk.bothG x.n (by have := HX.out.n1; omega) x.keep HX.out.k1
        have hr2 := fun (v : World) (hr : Rf v vo vw d) => rfuse_any hr x.n x.keep
        have NG : Good (Bd + 700) (d.fuseS x.n x.keep).1 := Ev.fuse (hgd.up (by omega)) x.n x.keep
        have NO : (d.fuseS x.n x.keep).1.on.length = d.on.length := on_fuseS d x.n x.keep
        have NW : (d.fuseS x.n x.keep).1.wait.length ≤ d.wait.length + 1000 := by rw [wait_fuseS]; omega
        have NL : ∀ g' l', lg = some (g', l') → Lk (Bd + 700) (d.fuseS x.n x.keep).1 l' := fun g' l' e => (hlk g' l' e).up (by omega) NO
        obtain ⟨DD, ec, hde⟩ : ∃ DD ec, d.fuseS x.n x.keep = (DD, ec) := ⟨_, _, rfl⟩
        rw [hde] at hp2 hr2 NG NO NW NL
        dsimp only at hp2 hr2 NG NO NW NL
        clear hde
        have HP := Lib.hid hp2
        have HR := Lib.hid hr2
        clear hp2 hr2 hgd hlk
        obtain ⟨y0, y7, y16⟩ := SX.out.cells
        go_upto_region 18 with fail
        refine wp_region_held_drew (S := fun v => Box v gs 44 (scs b d vo vw pl ms is).toArray ∧ Box v ga 30 x.cells) (by kernel_rfl) (⟨SX.out.box.kp DX.out (fun e => e), AX.out.kp DX.out (fun e => e)⟩) (fun hHeld => ?_)
        refine tk 0 (h := ?_)
        refine tk 1 (h := ?_)
        refine tk 2 (h := ?_)
        refine tk 3 (v := ?_) (hy := ?_) (h := ?_)
        rotate_left
        · intro v hSw
          have y : v.cell? ⟨gs, 0, none⟩ = some (.pointer (some ⟨b, 0, none⟩)) := hSw.1.cell 0
          try dsimp only at hSw
          go_simp
          with_reducible rfl
        refine tk 4 (h := ?_)
        refine tk 5 (v := ?_) (hy := ?_) (h := ?_)
        rotate_left
        · intro v hSw
          have y : v.cell? ⟨ga, 1, none⟩ = some (.int .i64 x.n) := hSw.2.cell 1
          try dsimp only at hSw
          go_simp
          with_reducible rfl
        refine tk 6 (h := ?_)
        refine tk 7 (v := ?_) (hy := ?_) (h := ?_)
        rotate_left
        · intro v hSw
          have y : v.cell? ⟨ga, 3, none⟩ = some (.string ⟨x.keep.toArray⟩) := hSw.2.cell 3
          try dsimp only at hSw
          go_simp
          with_reducible rfl
        refine rd 8 (h := fun K hK => ?_)
        go_simp
        refine (HP.out _ (SX.out.still DX.out)).mono ?_
        rintro e w3 ⟨rfl, hd3, hk3⟩
        have SY := Lib.hid ((SX.out.still DX.out).disk hd3 hk3)
        have GY := Lib.hid ((GX.out.still DX.out).dt hk3)
        have AY := Lib.hid (Box.dt (AX.out.kp DX.out (fun e => e)) hk3 ⟨by decide, by decide, by decide⟩)
        clear hd3 hk3
        go_wp2_with fail
        refine hK.out _ _ (⟨SY.out.box, AY.out⟩) (fun hHeld53 => ?_)
        clear hK K
        try simp only [Act.put, List.setIfInBounds_toArray, List.set_cons_zero, List.set_cons_succ]
        refine tk 9 (h := ?_)
        refine wpAnyH_done (by kernel_rfl) ?_ _
        have DY := Lib.hid ((Kp.refl (fun _ => False) w3).drew)
        go_upto_region 19 with fail
        refine wp_region_held_drew (S := fun v => Box v ga 30 x.cells) (by kernel_rfl) (AY.out.kp DY.out (fun e => e)) (fun hHeld => ?_)
        refine tk 0 (h := ?_)
        refine tk 1 (h := ?_)
        refine tk 2 (h := ?_)
        refine tk 3 (h := ?_)
        refine tk 5 (h := ?_)
        refine tk 6 (v := ?_) (hy := ?_) (h := ?_)
        rotate_left
        · intro v hSw
          have y : v.cell? ⟨ga, 1, none⟩ = some (.int .i64 x.n) := hSw.cell 1
          try dsimp only at hSw
          go_simp
          with_reducible rfl
        refine tk 7 (h := ?_)
        refine tk 8 (v := ?_) (hy := ?_) (h := ?_)
        rotate_left
        · intro v hSw
          have y : v.cell? ⟨ga, 3, none⟩ = some (.string ⟨x.keep.toArray⟩) := hSw.cell 3
          try dsimp only at hSw
          go_simp
          with_reducible rfl
        refine rd 4 (h := fun K hK => ?_)
        rw [if_pos (by rfl)]
        refine wp_load_mid 37 (.tmp 106) rfl gs 1 rfl (rcs d vo vw).toList _ (SY.out.still (DY.out)).dbox Tryz.underlying37 rfl infoRef ?_
        refine hK.out _ _ (AY.out.kp (DY.out) (fun e => e)) (fun hHeld54 => ?_)
        clear hK K
        try simp only [Act.put, List.setIfInBounds_toArray, List.set_cons_zero, List.set_cons_succ]
        refine rd 9 (h := fun K hK => ?_)
        go_simp
        refine (HR.out _ (SY.out.rf.still (DY.out))).mono ?_
        rintro e x1 ⟨va, vb, rfl, r7, kc⟩
        have KN1 := Lib.hid ((DY.out).trans kc)
        have R7 := Lib.hid (r7)
        clear r7
        clear kc
        go_wp2_with fail
        refine hK.out _ _ (AY.out.kp (KN1.out) (fun e => e)) (fun hHeld55 => ?_)
        clear hK K
        try simp only [Act.put, List.setIfInBounds_toArray, List.set_cons_zero, List.set_cons_succ]
        refine tk 10 (h := ?_)
        refine tk 11 (h := ?_)
        refine tk 12 (h := ?_)
        refine tk 13 (h := ?_)
        refine tk 14 (h := ?_)
        refine rd 15 (h := fun K hK => ?_)
        rw [if_pos (by rfl)]
        have hs0 := SY.out.still (KN1.out)
        have hg0 := GY.out.still (KN1.out)
        refine wp_store_part 37 (.tmp 116) (.tmp 113) rfl gs [.pointer (some ⟨b, 0, none⟩)] (rcs d vo vw).toList (rcs DD va vb).toList (pl :: ms ++ [.bool is]) rfl rfl hs0.box rfl infoRef (rcs_one _ _ _ R7.out.c1.1 R7.out.c1.2) ?_
        intro w4 hb4 hk4
        have SZ := Lib.hid (hs0.told hb4 hs0.ml R7.out hk4)
        have GZ := Lib.hid (hg0.told hs0.box hk4)
        have AZ := Lib.hid ((AY.out.kp (KN1.out) (fun e => e)).kp hk4 (fun e => ne_type hs0.box (AY.out.kp (KN1.out) (fun e => e)) (by decide) e))
        clear hb4 hk4 hs0 hg0
        refine hK.out _ _ (AZ.out) (fun hHeld56 => ?_)
        clear hK K
        try simp only [Act.put]
        refine tk 16 (h := ?_)
        refine wpAnyH_done (by kernel_rfl) ?_ _
        go_wp2_with fail
        go_meet
        exact ⟨_, rfl, rfl, DD, va, vb, pl, ms, is, lg, SZ.out, GZ.out, NG, NL, NO, NW⟩

    by_cases d4 : x.d = 4
    · as_aux_lemma =>
        have b0 : (x.d == 0) = false := by simpa using d0
        have b1 : (x.d == 1) = false := by simpa using d1
        have b2 : (x.d == 2) = false := by simpa using d2
        have b3 : (x.d == 3) = false := by simpa using d3
        have b4 : (x.d == 4) = true := by simpa using d4
        clear d0 d1 d2 d3 d4
        have hp2 := fun (v : World) (hs : Ks B w gs b d d vo vw pl ms is v) => crash_any hs.dk.bothG x.keep HX.out.k1
        have hr2 := fun (v : World) (hr : Rf v vo vw d) => rcrash_any hr OK.out x.keep HX.out.k1
        have NG : Good (Bd + 700) (d.crashS x.keep).1 := Ev.crash (hgd.up (by omega)) OK.out x.keep
        have NO : (d.crashS x.keep).1.on.length = d.on.length := on_crashS d x.keep
        have NW : (d.crashS x.keep).1.wait.length ≤ d.wait.length + 1000 := by have := wait_crashS d x.keep; omega
        have NL : ∀ g' l', lg = some (g', l') → Lk (Bd + 700) (d.crashS x.keep).1 l' := fun g' l' e => (hlk g' l' e).up (by omega) NO
        obtain ⟨DD, ec, hde⟩ : ∃ DD ec, d.crashS x.keep = (DD, ec) := ⟨_, _, rfl⟩
        rw [hde] at hp2 hr2 NG NO NW NL
        dsimp only at hp2 hr2 NG NO NW NL
        clear hde
        have HP := Lib.hid hp2
        have HR := Lib.hid hr2
        clear hp2 hr2 hgd hlk
        obtain ⟨y0, y7, y16⟩ := SX.out.cells
        go_upto_region 21 with fail
        refine wp_region_held_drew (S := fun v => Box v gs 44 (scs b d vo vw pl ms is).toArray ∧ Box v ga 30 x.cells) (by kernel_rfl) (⟨SX.out.box.kp DX.out (fun e => e), AX.out.kp DX.out (fun e => e)⟩) (fun hHeld => ?_)
        refine tk 0 (h := ?_)
        refine tk 1 (h := ?_)
        refine tk 2 (h := ?_)
        refine tk 3 (v := ?_) (hy := ?_) (h := ?_)
        rotate_left
        · intro v hSw
          have y : v.cell? ⟨gs, 0, none⟩ = some (.pointer (some ⟨b, 0, none⟩)) := hSw.1.cell 0
          try dsimp only at hSw
          go_simp
          with_reducible rfl
        refine tk 4 (h := ?_)
        refine tk 5 (v := ?_) (hy := ?_) (h := ?_)
        rotate_left
        · intro v hSw
          have y : v.cell? ⟨ga, 3, none⟩ = some (.string ⟨x.keep.toArray⟩) := hSw.2.cell 3
          try dsimp only at hSw
          go_simp
          with_reducible rfl
        refine rd 6 (h := fun K hK => ?_)
        go_simp
        refine (HP.out _ (SX.out.still DX.out)).mono ?_
        rintro e w3 ⟨rfl, hd3, hk3⟩
        have SY := Lib.hid ((SX.out.still DX.out).disk hd3 hk3)
        have GY := Lib.hid ((GX.out.still DX.out).dt hk3)
        have AY := Lib.hid (Box.dt (AX.out.kp DX.out (fun e => e)) hk3 ⟨by decide, by decide, by decide⟩)
        clear hd3 hk3
        go_wp2_with fail
        refine hK.out _ _ (⟨SY.out.box, AY.out⟩) (fun hHeld57 => ?_)
        clear hK K
        try simp only [Act.put, List.setIfInBounds_toArray, List.set_cons_zero, List.set_cons_succ]
        refine tk 7 (h := ?_)
        refine wpAnyH_done (by kernel_rfl) ?_ _
        have DY := Lib.hid ((Kp.refl (fun _ => False) w3).drew)
        go_upto_region 22 with fail
        refine wp_region_held_drew (S := fun v => Box v ga 30 x.cells) (by kernel_rfl) (AY.out.kp DY.out (fun e => e)) (fun hHeld => ?_)
        refine tk 0 (h := ?_)
        refine tk 1 (h := ?_)
        refine tk 2 (h := ?_)
        refine tk 3 (h := ?_)
        refine tk 5 (h := ?_)
        refine tk 6 (v := ?_) (hy := ?_) (h := ?_)
        rotate_left
        · intro v hSw
          have y : v.cell? ⟨ga, 3, none⟩ = some (.string ⟨x.keep.toArray⟩) := hSw.cell 3
          try dsimp only at hSw
          go_simp
          with_reducible rfl
        refine rd 4 (h := fun K hK => ?_)
        rw [if_pos (by rfl)]
        refine wp_load_mid 37 (.tmp 130) rfl gs 1 rfl (rcs d vo vw).toList _ (SY.out.still (DY.out)).dbox Tryz.underlying37 rfl infoRef ?_
        refine hK.out _ _ (AY.out.kp (DY.out) (fun e => e)) (fun hHeld58 => ?_)
        clear hK K
        try simp only [Act.put, List.setIfInBounds_toArray, List.set_cons_zero, List.set_cons_succ]
        refine rd 7 (h := fun K hK => ?_)
        go_simp
        refine (HR.out _ (SY.out.rf.still (DY.out))).mono ?_
        rintro e x1 ⟨va, vb, rfl, r7, kc⟩
        have KN1 := Lib.hid ((DY.out).trans kc)
        have R7 := Lib.hid (r7)
        clear r7
        clear kc
        go_wp2_with fail
        refine hK.out _ _ (AY.out.kp (KN1.out) (fun e => e)) (fun hHeld59 => ?_)
        clear hK K
        try simp only [Act.put, List.setIfInBounds_toArray, List.set_cons_zero, List.set_cons_succ]
        refine tk 8 (h := ?_)
        refine tk 9 (h := ?_)
        refine tk 10 (h := ?_)
        refine tk 11 (h := ?_)
        refine tk 12 (h := ?_)
        refine rd 13 (h := fun K hK => ?_)
        rw [if_pos (by rfl)]
        have hs0 := SY.out.still (KN1.out)
        have hg0 := GY.out.still (KN1.out)
        refine wp_store_part 37 (.tmp 138) (.tmp 135) rfl gs [.pointer (some ⟨b, 0, none⟩)] (rcs d vo vw).toList (rcs DD va vb).toList (pl :: ms ++ [.bool is]) rfl rfl hs0.box rfl infoRef (rcs_one _ _ _ R7.out.c1.1 R7.out.c1.2) ?_
        intro w4 hb4 hk4
        have SZ := Lib.hid (hs0.told hb4 hs0.ml R7.out hk4)
        have GZ := Lib.hid (hg0.told hs0.box hk4)
        have AZ := Lib.hid ((AY.out.kp (KN1.out) (fun e => e)).kp hk4 (fun e => ne_type hs0.box (AY.out.kp (KN1.out) (fun e => e)) (by decide) e))
        clear hb4 hk4 hs0 hg0
        refine hK.out _ _ (AZ.out) (fun hHeld60 => ?_)
        clear hK K
        try simp only [Act.put]
        refine tk 14 (h := ?_)
        refine wpAnyH_done (by kernel_rfl) ?_ _
        have NGS : Good (Bd + 700) DD.startS := Ev.start NG
        have hp3 := fun (v : World) (hs : Ks B w gs b DD DD va vb pl ms is v) => start_any hs.dk.bothG
        have hr3 := fun (v : World) (hr : Rf v va vb DD) => rstart_any hr
        have SX := Lib.hid SZ.out
        have GX := Lib.hid GZ.out
        have HP := Lib.hid hp3
        have HR := Lib.hid hr3
        clear hp3 hr3 SZ GZ SY GY AY AX AZ
        obtain ⟨y0, y7, y16⟩ := SX.out.cells
        go_wp2_with fail
        refine (HP.out _ SX.out).mono ?_
        rintro e w3 ⟨rfl, hd3, hk3⟩
        have SY := Lib.hid (SX.out.disk hd3 hk3)
        have GY := Lib.hid (GX.out.dt hk3)
        clear hd3 hk3
        go_wp2_with (first | (refine wpList_load_mid rfl 37 (.tmp 147) rfl gs 1 rfl (rcs DD va vb).toList _ SY.out.dbox Tryz.underlying37 rfl infoRef ?_) | fail)
        refine (HR.out _ SY.out.rf).mono ?_
        rintro e w5 ⟨vc, vd, rfl, r7, kc⟩
        have R7 := Lib.hid r7
        have SY := Lib.hid (SY.out.still kc)
        have GY := Lib.hid (GY.out.still kc)
        clear r7 kc
        go_upto_region 25 with (first | (refine wpList_store_part rfl 37 (.tmp 151) (.tmp 149) rfl gs [.pointer (some ⟨b, 0, none⟩)] (rcs DD va vb).toList (rcs DD.startS vc vd).toList (pl :: ms ++ [.bool is]) rfl rfl SY.out.box rfl infoRef (rcs_one _ _ _ R7.out.c1.1 R7.out.c1.2) ?_; intro w4 hb4 hk4) | fail)
        have SZ := Lib.hid (SY.out.told hb4 SY.out.ml R7.out hk4)
        have GZ := Lib.hid (GY.out.told SY.out.box hk4)
        clear hb4 hk4
        obtain ⟨yq0, yq7, yq16⟩ := SZ.out.cells
        have f16 := SZ.out.box.free 16
        go_wp2_with fail
        go_meet
        exact ⟨_, rfl, rfl, DD.startS, vc, vd, pl, ms, false, none, SZ.out.setI false, rfl, NGS, (fun _ _ e => by cases e), NO, NW⟩

    by_cases d5 : x.d = 5
    · as_aux_lemma =>
        have b0 : (x.d == 0) = false := by simpa using d0
        have b1 : (x.d == 1) = false := by simpa using d1
        have b2 : (x.d == 2) = false := by simpa using d2
        have b3 : (x.d == 3) = false := by simpa using d3
        have b4 : (x.d == 4) = false := by simpa using d4
        have b5 : (x.d == 5) = true := by simpa using d5
        clear d0 d1 d2 d3 d4 d5
        have hp2 := fun (v : World) (hs : Ks B w gs b d d vo vw pl ms is v) => start_any hs.dk.bothG
        have hr2 := fun (v : World) (hr : Rf v vo vw d) => rstart_any hr
        have NG : Good (Bd + 700) d.startS := Ev.start (hgd.up (by omega))
        have NO : d.startS.on.length = d.on.length := rfl
        have NW : d.startS.wait.length ≤ d.wait.length + 1000 := Nat.le_add_right _ _
        have NL : ∀ g' l', lg = some (g', l') → Lk (Bd + 700) d.startS l' := fun g' l' e => (hlk g' l' e).up (by omega) NO
        have HP := Lib.hid hp2
        have HR := Lib.hid hr2
        clear hp2 hr2 hgd hlk
        obtain ⟨y0, y7, y16⟩ := SX.out.cells
        go_wp2_with fail
        refine (HP.out _ SX.out).mono ?_
        rintro e w3 ⟨rfl, hd3, hk3⟩
        have SY := Lib.hid (SX.out.disk hd3 hk3)
        have GY := Lib.hid (GX.out.dt hk3)
        clear hd3 hk3
        go_wp2_with (first | (refine wpList_load_mid rfl 37 (.tmp 165) rfl gs 1 rfl (rcs d vo vw).toList _ SY.out.dbox Tryz.underlying37 rfl infoRef ?_) | fail)
        refine (HR.out _ SY.out.rf).mono ?_
        rintro e w5 ⟨va, vb, rfl, r7, kc⟩
        have R7 := Lib.hid r7
        have SY := Lib.hid (SY.out.still kc)
        have GY := Lib.hid (GY.out.still kc)
        clear r7 kc
        go_wp2_with (first | (refine wpList_store_part rfl 37 (.tmp 169) (.tmp 167) rfl gs [.pointer (some ⟨b, 0, none⟩)] (rcs d vo vw).toList (rcs d.startS va vb).toList (pl :: ms ++ [.bool is]) rfl rfl SY.out.box rfl infoRef (rcs_one _ _ _ R7.out.c1.1 R7.out.c1.2) ?_; intro w4 hb4 hk4) | fail)
        have SZ := Lib.hid (SY.out.told hb4 SY.out.ml R7.out hk4)
        have GZ := Lib.hid (GY.out.told SY.out.box hk4)
        clear hb4 hk4
        go_meet
        exact ⟨_, rfl, rfl, d.startS, va, vb, pl, ms, is, lg, SZ.out, GZ.out, NG, NL, NO, NW⟩

    as_aux_lemma =>
      have b0 : (x.d == 0) = false := by simpa using d0
      have b1 : (x.d == 1) = false := by simpa using d1
      have b2 : (x.d == 2) = false := by simpa using d2
      have b3 : (x.d == 3) = false := by simpa using d3
      have b4 : (x.d == 4) = false := by simpa using d4
      have b5 : (x.d == 5) = false := by simpa using d5
      clear d0 d1 d2 d3 d4 d5
      have hp2 := fun (v : World) (hs : Ks B w gs b d d vo vw pl ms is v) => format_any hs.new hs.dk.bothG (hs.tbl HTW.out HBW.out) x.n x.keep (by omega)
      have hr2 := fun (v : World) (hr : Rf v vo vw d) => (hgd.format OK.out x.n x.keep ▸ rformat_any hr OK.out x.n x.keep (by omega))
      have NG : Good (Bd + 700) (d.formatS x.n x.keep).1 := (hgd.formatted OK.out (by omega) (by omega) hB1 x.n x.keep).up (by omega)
      have NO : (d.formatS x.n x.keep).1.on.length = d.on.length := on_formatS d x.n x.keep
      have NW : (d.formatS x.n x.keep).1.wait.length ≤ d.wait.length + 1000 := by have := wait_formatS d x.n x.keep; omega
      have NL : ∀ g' l', lg = some (g', l') → Lk (Bd + 700) (d.formatS x.n x.keep).1 l' := fun g' l' e => (hlk g' l' e).up (by omega) NO
      obtain ⟨DD, ec, hde⟩ : ∃ DD ec, d.formatS x.n x.keep = (DD, ec) := ⟨_, _, rfl⟩
      rw [hde] at hp2 hr2 NG NO NW NL
      dsimp only at hp2 hr2 NG NO NW NL
      clear hde
      have HP := Lib.hid hp2
      have HR := Lib.hid hr2
      clear hp2 hr2 hgd hlk
      obtain ⟨y0, y7, y16⟩ := SX.out.cells
      go_upto_region 3 with fail
      refine wp_region_held_drew (S := fun v => Box v gs 44 (scs b d vo vw pl ms is).toArray ∧ Box v ga 30 x.cells) (by kernel_rfl) (⟨SX.out.box.kp DX.out (fun e => e), AX.out.kp DX.out (fun e => e)⟩) (fun hHeld => ?_)
      refine tk 0 (h := ?_)
      refine tk 1 (h := ?_)
      refine tk 2 (h := ?_)
      refine tk 3 (v := ?_) (hy := ?_) (h := ?_)
      rotate_left
      · intro v hSw
        have y : v.cell? ⟨gs, 0, none⟩ = some (.pointer (some ⟨b, 0, none⟩)) := hSw.1.cell 0
        try dsimp only at hSw
        go_simp
        with_reducible rfl
      refine tk 4 (h := ?_)
      refine tk 5 (v := ?_) (hy := ?_) (h := ?_)
      rotate_left
      · intro v hSw
        have y : v.cell? ⟨ga, 1, none⟩ = some (.int .i64 x.n) := hSw.2.cell 1
        try dsimp only at hSw
        go_simp
        with_reducible rfl
      refine tk 6 (h := ?_)
      refine tk 7 (v := ?_) (hy := ?_) (h := ?_)
      rotate_left
      · intro v hSw
        have y : v.cell? ⟨ga, 3, none⟩ = some (.string ⟨x.keep.toArray⟩) := hSw.2.cell 3
        try dsimp only at hSw
        go_simp
        with_reducible rfl
      refine rd 8 (h := fun K hK => ?_)
      go_simp
      refine (HP.out _ (SX.out.still DX.out)).mono ?_
      rintro e w3 ⟨rfl, hd3, hk3⟩
      have SY := Lib.hid ((SX.out.still DX.out).disk hd3 hk3)
      have GY := Lib.hid ((GX.out.still DX.out).dt hk3)
      have AY := Lib.hid (Box.dt (AX.out.kp DX.out (fun e => e)) hk3 ⟨by decide, by decide, by decide⟩)
      clear hd3 hk3
      go_wp2_with fail
      refine hK.out _ _ (⟨SY.out.box, AY.out⟩) (fun hHeld49 => ?_)
      clear hK K
      try simp only [Act.put, List.setIfInBounds_toArray, List.set_cons_zero, List.set_cons_succ]
      refine tk 9 (h := ?_)
      refine wpAnyH_done (by kernel_rfl) ?_ _
      have DY := Lib.hid ((Kp.refl (fun _ => False) w3).drew)
      go_upto_region 4 with fail
      refine wp_region_held_drew (S := fun v => Box v ga 30 x.cells) (by kernel_rfl) (AY.out.kp DY.out (fun e => e)) (fun hHeld => ?_)
      refine tk 0 (h := ?_)
      refine tk 1 (h := ?_)
      refine tk 2 (h := ?_)
      refine tk 3 (h := ?_)
      refine tk 5 (h := ?_)
      refine tk 6 (v := ?_) (hy := ?_) (h := ?_)
      rotate_left
      · intro v hSw
        have y : v.cell? ⟨ga, 1, none⟩ = some (.int .i64 x.n) := hSw.cell 1
        try dsimp only at hSw
        go_simp
        with_reducible rfl
      refine tk 7 (h := ?_)
      refine tk 8 (v := ?_) (hy := ?_) (h := ?_)
      rotate_left
      · intro v hSw
        have y : v.cell? ⟨ga, 3, none⟩ = some (.string ⟨x.keep.toArray⟩) := hSw.cell 3
        try dsimp only at hSw
        go_simp
        with_reducible rfl
      refine rd 4 (h := fun K hK => ?_)
      rw [if_pos (by rfl)]
      refine wp_load_mid 37 (.tmp 22) rfl gs 1 rfl (rcs d vo vw).toList _ (SY.out.still (DY.out)).dbox Tryz.underlying37 rfl infoRef ?_
      refine hK.out _ _ (AY.out.kp (DY.out) (fun e => e)) (fun hHeld50 => ?_)
      clear hK K
      try simp only [Act.put, List.setIfInBounds_toArray, List.set_cons_zero, List.set_cons_succ]
      refine rd 9 (h := fun K hK => ?_)
      go_simp
      refine (HR.out _ (SY.out.rf.still (DY.out))).mono ?_
      rintro e x1 ⟨va, vb, rfl, r7, kc⟩
      have KN1 := Lib.hid ((DY.out).trans kc)
      have R7 := Lib.hid (r7)
      clear r7
      clear kc
      go_wp2_with fail
      refine hK.out _ _ (AY.out.kp (KN1.out) (fun e => e)) (fun hHeld51 => ?_)
      clear hK K
      try simp only [Act.put, List.setIfInBounds_toArray, List.set_cons_zero, List.set_cons_succ]
      refine tk 10 (h := ?_)
      refine tk 11 (h := ?_)
      refine tk 12 (h := ?_)
      refine tk 13 (h := ?_)
      refine tk 14 (h := ?_)
      refine rd 15 (h := fun K hK => ?_)
      rw [if_pos (by rfl)]
      have hs0 := SY.out.still (KN1.out)
      have hg0 := GY.out.still (KN1.out)
      refine wp_store_part 37 (.tmp 32) (.tmp 29) rfl gs [.pointer (some ⟨b, 0, none⟩)] (rcs d vo vw).toList (rcs DD va vb).toList (pl :: ms ++ [.bool is]) rfl rfl hs0.box rfl infoRef (rcs_one _ _ _ R7.out.c1.1 R7.out.c1.2) ?_
      intro w4 hb4 hk4
      have SZ := Lib.hid (hs0.told hb4 hs0.ml R7.out hk4)
      have GZ := Lib.hid (hg0.told hs0.box hk4)
      have AZ := Lib.hid ((AY.out.kp (KN1.out) (fun e => e)).kp hk4 (fun e => ne_type hs0.box (AY.out.kp (KN1.out) (fun e => e)) (by decide) e))
      clear hb4 hk4 hs0 hg0
      refine hK.out _ _ (AZ.out) (fun hHeld52 => ?_)
      clear hK K
      try simp only [Act.put]
      refine tk 16 (h := ?_)
      refine wpAnyH_done (by kernel_rfl) ?_ _
      obtain ⟨yq0, yq7, yq16⟩ := SZ.out.cells
      have f16 := SZ.out.box.free 16
      go_wp2_with fail
      go_meet
      exact ⟨_, rfl, rfl, DD, va, vb, pl, ms, false, none, SZ.out.setI false, rfl, NG, (fun _ _ e => by cases e), NO, NW⟩
  case rest =>
    obtain ⟨cc, rfl, rfl, hn⟩ := hcut
    obtain ⟨d1, vo1, vw1, pl1, ms1, is1, lg1, hs1, hg1, q1, q2, q3, q4⟩ := hn
    obtain ⟨wy, ew, hs1⟩ : ∃ wy, wy = _ ∧ Ks B w gs b d1 d1 vo1 vw1 pl1 ms1 is1 wy := ⟨_, rfl, hs1⟩
    subst ew
    have N1 := Lib.hid (show Nx B w gs b d Bd wy from ⟨d1, vo1, vw1, pl1, ms1, is1, lg1, hs1, hg1, q1, q2, q3, q4⟩)
    have S9 := Lib.hid hs1
    have D9 := Lib.hid ((Kp.refl (fun _ => False) wy).drew)
    have D10 := Lib.hid (D9.out.drew)
    clear q3 q4 q1 z0 z2
    rcases lg1 with _ | ⟨g, l⟩
    · as_aux_lemma =>
      have hi : is1 = false := hg1
      subst hi
      have y16 : wy.drew.cell? ⟨gs, 16, none⟩ = some (.bool false) := (S9.out.still D9.out).cells.2.2
      clear hs1 hg1 q2
      go_upto_region 29 with fail
      refine wp_region_held_drew (S := fun v => v.cell? ⟨gs, 16, none⟩ = some (.bool false)) (by kernel_rfl) (y16) (fun hHeld => ?_)
      refine tk 0 (h := ?_)
      refine tk 1 (h := ?_)
      refine tk 2 (h := ?_)
      refine tk 3 (h := ?_)
      refine tk 4 (h := ?_)
      refine sk 5 (h := ?_)
      refine sk 6 (h := ?_)
      refine sk 7 (h := ?_)
      refine sk 8 (h := ?_)
      refine sk 9 (h := ?_)
      refine sk 10 (h := ?_)
      refine sk 11 (h := ?_)
      refine sk 12 (h := ?_)
      refine sk 13 (h := ?_)
      refine sk 14 (h := ?_)
      refine sk 15 (h := ?_)
      refine sk 16 (h := ?_)
      refine sk 17 (h := ?_)
      refine sk 18 (h := ?_)
      refine sk 19 (h := ?_)
      refine sk 20 (h := ?_)
      refine sk 21 (h := ?_)
      refine sk 22 (h := ?_)
      refine sk 23 (h := ?_)
      refine sk 24 (h := ?_)
      refine sk 25 (h := ?_)
      refine sk 26 (h := ?_)
      refine sk 27 (h := ?_)
      refine sk 28 (h := ?_)
      refine sk 29 (h := ?_)
      refine sk 30 (h := ?_)
      refine sk 31 (h := ?_)
      refine sk 32 (h := ?_)
      refine sk 33 (h := ?_)
      refine sk 34 (h := ?_)
      refine sk 35 (h := ?_)
      refine sk 36 (h := ?_)
      refine sk 37 (h := ?_)
      refine sk 38 (h := ?_)
      refine sk 39 (h := ?_)
      refine sk 40 (h := ?_)
      refine sk 41 (h := ?_)
      refine sk 42 (h := ?_)
      refine sk 43 (h := ?_)
      refine sk 44 (h := ?_)
      refine sk 45 (h := ?_)
      refine sk 46 (h := ?_)
      refine sk 47 (h := ?_)
      refine sk 48 (h := ?_)
      refine sk 49 (h := ?_)
      refine sk 50 (h := ?_)
      refine tk 51 (h := ?_)
      refine wpAnyH_done (by kernel_rfl) ?_ _
      clear y16 hHeld
      go_upto_region 31 with fail
      refine wp_region_held_drew (S := fun v => Box v gs 44 (scs b d1 vo1 vw1 pl1 ms1 false).toArray) (by kernel_rfl) (S9.out.box.kp D10.out (fun e => e)) (fun hHeld => ?_)
      refine tk 0 (h := ?_)
      refine tk 1 (h := ?_)
      refine tk 2 (h := ?_)
      refine tk 3 (h := ?_)
      refine tk 4 (h := ?_)
      refine tk 5 (h := ?_)
      refine tk 6 (h := ?_)
      refine tk 7 (v := ?_) (hy := ?_) (h := ?_)
      rotate_left
      · intro v hSw
        have y : v.cell? ⟨gs, 0, none⟩ = some (.pointer (some ⟨b, 0, none⟩)) := hSw.cell 0
        try dsimp only at hSw
        go_simp
        with_reducible rfl
      refine tk 9 (h := ?_)
      refine tk 10 (h := ?_)
      refine tk 11 (h := ?_)
      refine tk 12 (h := ?_)
      refine tk 13 (v := ?_) (hy := ?_) (h := ?_)
      rotate_left
      · intro v hSw
        have y : v.cell? ⟨gs, 3, none⟩ = some (.bool (!d1.power)) := hSw.cell 3
        try dsimp only at hSw
        go_simp
        with_reducible rfl
      refine tk 14 (h := ?_)
      refine rd 8 (h := fun K hK => ?_)
      go_simp
      refine (alive_any (S9.out.still D10.out).dk).mono ?_
      rintro e w9 ⟨rfl, rfl⟩
      go_wp2_with fail
      refine hK.out _ _ (S9.out.box.kp D10.out (fun e => e)) (fun hHeld61 => ?_)
      clear hK K
      try simp only [Act.put, List.setIfInBounds_toArray, List.set_cons_zero, List.set_cons_succ]
      refine tk 15 (h := ?_)
      refine tk 16 (h := ?_)
      refine tk 17 (h := ?_)
      refine wpAnyH_done (by kernel_rfl) ?_ _
      go_wp2_with fail
      go_ret
      exact ⟨rfl, N1.out.still D10.out⟩
    · as_aux_lemma =>
      obtain ⟨hi, hp, hm, hgk⟩ := hg1
      subst hi; subst hp; subst hm
      have G9 := Lib.hid hgk
      have hl := q2 g l rfl
      have HLEFT := Lib.hid (fun (v : World) (hh : Kg B g b l v) => lleft_any hh.lg)
      have HNOTE := Lib.hid (fun (v : World) (hh : Kg B g b l v) => lnote_any hh.lg)
      have HSECT := Lib.hid (fun (v : World) (hh : Kg B g b l v) => lsectors_any hh.lg)
      have cs1 : IntKind.i64.wrap ((l.h.n : Int) - ((l.h.n : Int) - l.left)) = (l.left : Int) := by
        have := hl.left_
        have := hl.h_.hi
        rw [IntWalk.i64_in _ (by omega)]
        omega
      clear hs1 hgk q2 hl
      go_upto_region 29 with fail
      refine wp_region_held_drew (S := fun v => Box v gs 44 (scs b d1 vo1 vw1 (.pointer (some ⟨g, 0, none⟩)) (mcs l ((l.h.n : Int) - l.left)) true).toArray) (by kernel_rfl) (S9.out.box.kp D9.out (fun e => e)) (fun hHeld => ?_)
      refine tk 0 (h := ?_)
      refine tk 1 (h := ?_)
      refine tk 2 (h := ?_)
      refine tk 3 (v := ?_) (hy := ?_) (h := ?_)
      rotate_left
      · intro v hSw
        have y : v.cell? ⟨gs, 16, none⟩ = some (.bool true) := hSw.cell 16
        try dsimp only at hSw
        go_simp
        with_reducible rfl
      refine tk 4 (h := ?_)
      refine tk 5 (h := ?_)
      refine tk 6 (h := ?_)
      refine tk 7 (h := ?_)
      refine tk 8 (v := ?_) (hy := ?_) (h := ?_)
      rotate_left
      · intro v hSw
        have y : v.cell? ⟨gs, 7, none⟩ = some (.pointer (some ⟨g, 0, none⟩)) := hSw.cell 7
        try dsimp only at hSw
        go_simp
        with_reducible rfl
      refine tk 10 (h := ?_)
      refine tk 11 (h := ?_)
      refine tk 12 (h := ?_)
      refine tk 13 (h := ?_)
      refine tk 14 (h := ?_)
      refine tk 15 (v := ?_) (hy := ?_) (h := ?_)
      rotate_left
      · intro v hSw
        have y : v.cell? ⟨gs, 10, none⟩ = some (.int .i64 l.h.n) := hSw.cell 10
        try dsimp only at hSw
        go_simp
        with_reducible rfl
      refine tk 16 (h := ?_)
      refine tk 17 (h := ?_)
      refine tk 18 (h := ?_)
      refine tk 19 (h := ?_)
      refine tk 20 (v := ?_) (hy := ?_) (h := ?_)
      rotate_left
      · intro v hSw
        have y : v.cell? ⟨gs, 14, none⟩ = some (.int .i64 ((l.h.n : Int) - l.left)) := hSw.cell 14
        try dsimp only at hSw
        go_simp
        with_reducible rfl
      refine tk 21 (h := ?_)
      refine rd 9 (h := fun K hK => ?_)
      go_simp
      refine (HLEFT.out _ (G9.out.still D9.out)).mono ?_
      rintro e w9 ⟨rfl, rfl⟩
      go_wp2_with fail
      refine hK.out _ _ (S9.out.box.kp D9.out (fun e => e)) (fun hHeld62 => ?_)
      clear hK K
      try simp only [Act.put, List.setIfInBounds_toArray, List.set_cons_zero, List.set_cons_succ]
      refine tk 22 (h := ?_)
      refine tk 23 (h := ?_)
      refine tk 24 (h := ?_)
      refine tk 25 (h := ?_)
      refine tk 26 (h := ?_)
      refine tk 27 (v := ?_) (hy := ?_) (h := ?_)
      rotate_left
      · intro v hSw
        have y : v.cell? ⟨gs, 7, none⟩ = some (.pointer (some ⟨g, 0, none⟩)) := hSw.cell 7
        try dsimp only at hSw
        go_simp
        with_reducible rfl
      refine tk 29 (h := ?_)
      refine tk 30 (h := ?_)
      refine tk 31 (h := ?_)
      refine tk 32 (h := ?_)
      refine tk 33 (h := ?_)
      refine tk 34 (v := ?_) (hy := ?_) (h := ?_)
      rotate_left
      · intro v hSw
        have y : v.cell? ⟨gs, 11, none⟩ = some (.string ⟨l.h.note.toArray⟩) := hSw.cell 11
        try dsimp only at hSw
        go_simp
        with_reducible rfl
      refine rd 28 (h := fun K hK => ?_)
      go_simp
      refine (HNOTE.out _ (G9.out.still D9.out)).mono ?_
      rintro e w9 ⟨rfl, rfl⟩
      go_wp2_with fail
      refine hK.out _ _ (S9.out.box.kp D9.out (fun e => e)) (fun hHeld63 => ?_)
      clear hK K
      try simp only [Act.put, List.setIfInBounds_toArray, List.set_cons_zero, List.set_cons_succ]
      refine tk 35 (h := ?_)
      refine tk 36 (h := ?_)
      refine tk 37 (h := ?_)
      refine tk 38 (h := ?_)
      refine tk 39 (h := ?_)
      refine tk 40 (h := ?_)
      refine tk 41 (v := ?_) (hy := ?_) (h := ?_)
      rotate_left
      · intro v hSw
        have y : v.cell? ⟨gs, 7, none⟩ = some (.pointer (some ⟨g, 0, none⟩)) := hSw.cell 7
        try dsimp only at hSw
        go_simp
        with_reducible rfl
      refine tk 43 (h := ?_)
      refine tk 44 (h := ?_)
      refine tk 45 (h := ?_)
      refine tk 46 (h := ?_)
      refine tk 47 (h := ?_)
      refine tk 48 (v := ?_) (hy := ?_) (h := ?_)
      rotate_left
      · intro v hSw
        have y : v.cell? ⟨gs, 10, none⟩ = some (.int .i64 l.h.n) := hSw.cell 10
        try dsimp only at hSw
        go_simp
        with_reducible rfl
      refine rd 42 (h := fun K hK => ?_)
      go_simp
      refine (HSECT.out _ (G9.out.still D9.out)).mono ?_
      rintro e w9 ⟨rfl, rfl⟩
      go_wp2_with fail
      refine hK.out _ _ (S9.out.box.kp D9.out (fun e => e)) (fun hHeld64 => ?_)
      clear hK K
      try simp only [Act.put, List.setIfInBounds_toArray, List.set_cons_zero, List.set_cons_succ]
      refine tk 49 (h := ?_)
      refine tk 50 (h := ?_)
      refine tk 51 (h := ?_)
      refine wpAnyH_done (by kernel_rfl) ?_ _
      clear hHeld
      go_upto_region 31 with fail
      refine wp_region_held_drew (S := fun v => Box v gs 44 (scs b d1 vo1 vw1 (.pointer (some ⟨g, 0, none⟩)) (mcs l ((l.h.n : Int) - l.left)) true).toArray) (by kernel_rfl) (S9.out.box.kp D10.out (fun e => e)) (fun hHeld => ?_)
      refine tk 0 (h := ?_)
      refine tk 1 (h := ?_)
      refine tk 2 (h := ?_)
      refine tk 3 (h := ?_)
      refine tk 4 (h := ?_)
      refine tk 5 (h := ?_)
      refine tk 6 (h := ?_)
      refine tk 7 (v := ?_) (hy := ?_) (h := ?_)
      rotate_left
      · intro v hSw
        have y : v.cell? ⟨gs, 0, none⟩ = some (.pointer (some ⟨b, 0, none⟩)) := hSw.cell 0
        try dsimp only at hSw
        go_simp
        with_reducible rfl
      refine tk 9 (h := ?_)
      refine tk 10 (h := ?_)
      refine tk 11 (h := ?_)
      refine tk 12 (h := ?_)
      refine tk 13 (v := ?_) (hy := ?_) (h := ?_)
      rotate_left
      · intro v hSw
        have y : v.cell? ⟨gs, 3, none⟩ = some (.bool (!d1.power)) := hSw.cell 3
        try dsimp only at hSw
        go_simp
        with_reducible rfl
      refine tk 14 (h := ?_)
      refine rd 8 (h := fun K hK => ?_)
      go_simp
      refine (alive_any (S9.out.still D10.out).dk).mono ?_
      rintro e w9 ⟨rfl, rfl⟩
      go_wp2_with fail
      refine hK.out _ _ (S9.out.box.kp D10.out (fun e => e)) (fun hHeld65 => ?_)
      clear hK K
      try simp only [Act.put, List.setIfInBounds_toArray, List.set_cons_zero, List.set_cons_succ]
      refine tk 15 (h := ?_)
      refine tk 16 (h := ?_)
      refine tk 17 (h := ?_)
      refine wpAnyH_done (by kernel_rfl) ?_ _
      go_wp2_with fail
      go_ret
      exact ⟨rfl, N1.out.still D10.out⟩
end Go.Proofs.YtfcljcikajaedaaGreatDoor
