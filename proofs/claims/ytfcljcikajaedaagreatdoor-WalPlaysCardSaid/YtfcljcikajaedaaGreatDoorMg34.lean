/- Format in the document's own words. Conditions: the disk's own; fewer than 2^30 writes that wait. -/
import Derived.Test.YtfcljcikajaedaaGreatDoorMg3
import Derived.Test.YtfcljcikajaedaaGreatDoorMg32
import Derived.Test.YtfcljcikajaedaaGreatDoorMg33
namespace Go.Proofs.YtfcljcikajaedaaGreatDoor
open Go.RowKit Go.Maps

def Dm.rheads (d : Dm) : Option (Hd × Nat) := countS (rheadS (d.nowAt 0)) (rheadS (d.nowAt 1))
def otherI (a : Int) : Nat := if a = 1 then 0 else 1
def Dm.formatR (d : Dm) (n : Int) (note : List UInt8) : Dm × Int :=
  if !mayFormat d n note then (d, 2) else if !d.power then (d, 4) else d.putHead (otherI (cntV d.rheads).2) ⟨((cntV d.rheads).1.g + 1) % 18446744073709551616, nextF (fun i => d.nowAt i) n.toNat 1, n.toNat, note⟩
theorem rheads_at (d : Dm) : (cntV d.rheads).2 = -1 ∨ (cntV d.rheads).2 = 0 ∨ (cntV d.rheads).2 = 1 := by
  rcases hh : d.rheads with _ | ⟨h, a⟩
  · exact .inl rfl
  · have hc : countS (rheadS (d.nowAt 0)) (rheadS (d.nowAt 1)) = some (h, a) := hh
    rcases countS_at hc with ⟨rfl, _⟩ | ⟨rfl, _⟩
    · exact .inr (.inl rfl)
    · exact .inr (.inr rfl)
theorem other_all (a : Int) (h : a = -1 ∨ a = 0 ∨ a = 1) (w : World) :
    Calls Tryz.prog 59 #[.int .i64 a] w fun e w' => e = .returned (.int .i64 (otherI a : Nat)) ∧ w = w' := by
  rcases h with rfl | rfl | rfl
  · exact other_none w
  · exact other_any 0 (by omega) w
  · exact other_any 1 (by omega) w
set_option maxRecDepth 100000 in
set_option maxHeartbeats 8000000 in
theorem rformat_any {w : World} {vo vw : Value} {d : Dm} (h0 : Rf w vo vw d) (ok : d.ok) (n : Int) (note : List UInt8) (hw : d.wait.length + 1 < 1073741824) :
    Calls Tryz.prog 30 #[.agg (rcs d vo vw), .int .i64 n, .string ⟨note.toArray⟩] w fun e w' => ∃ vo' vw', e = .returned (.tuple #[.agg (rcs (d.formatR n note).1 vo' vw'), .int .i64 (d.formatR n note).2]) ∧ Rf w' vo' vw' (d.formatR n note).1 ∧ Kp (fun _ => False) w w' := by
  have HBAD : Hid (mayFormat d n note = false → d.formatR n note = (d, 2)) := Lib.hid (fun h => by unfold Dm.formatR; rw [h]; rfl)
  have HDEAD : Hid (mayFormat d n note = true → d.power = false → d.formatR n note = (d, 4)) := Lib.hid (fun h h2 => by unfold Dm.formatR; rw [h, h2]; rfl)
  have HGO : Hid (mayFormat d n note = true → d.power = true → d.formatR n note = d.putHead (otherI (cntV d.rheads).2) ⟨((cntV d.rheads).1.g + 1) % 18446744073709551616, nextF (fun i => d.nowAt i) n.toNat 1, n.toNat, note⟩) := Lib.hid (fun h h2 => by unfold Dm.formatR; rw [h, h2]; rfl)
  have Hr : Hid (Tryz.f30.results = #[.cell 6 37, .tmp 7]) := Lib.hid (by kernel_rfl)
  have hfew := ok.few
  obtain ⟨Ao, co, hvo⟩ : ∃ Ao co, vo = .slice Ao d.on.length co := by
    obtain ⟨_, Ao, co, hvo, _⟩ := h0.on
    exact ⟨Ao, co, hvo⟩
  obtain ⟨W, hW, hb0, hb1, hkw⟩ := start2 w (rcs d vo vw)
  have HW := Lib.hid hW
  have B0 := Lib.hid hb0
  have B1 := Lib.hid hb1
  have KW := Lib.hid hkw
  have H0 := Lib.hid (h0.still hkw)
  have OK := Lib.hid ok
  have HWT := Lib.hid hw
  have HWS := Lib.hid (show W.heap.size = w.heap.size + 2 by rw [hW]; simp)
  have DR := Lib.hid ((Kp.refl (fun _ => False) W).drew)
  have y0 : W.cell? ⟨w.heap.size, 0, none⟩ = some (.slice Ao d.on.length co) := by rw [← hvo]; exact B0.out.cell 0
  have y2 : W.cell? ⟨w.heap.size, 2, none⟩ = some (.bool (!d.power)) := B0.out.cell 2
  have hsz : (⟨note.toArray⟩ : ByteArray).size = note.length := by show note.toArray.size = _; simp
  clear hvo hW hb0 hb1 hkw h0 ok hw
  by_cases h1 : n < 96
  · rw [HBAD.out (by simp only [mayFormat, Bool.and_eq_false_iff, decide_eq_false_iff_not]; omega)]
    have c1 : decide (n < 96) = true := by simp; omega
    go_enter Tryz.func30, Tryz.ntmps30
    go_upto_region 1 with fail
    rw [← HW.out]
    go_wp2_with (first | (refine wpList_load_mid rfl 37 (.tmp 3) rfl w.heap.size 0 rfl (rcs d vo vw).toList _ (Box.range' (L := (rcs d vo vw).toList) B0.out) Tryz.underlying37 rfl infoRef ?_) | (refine dwpList_store_box rfl 37 (.tmp 6) (.tmp 29) rfl (w.heap.size + 1) (rcs d vo vw).toList rfl rfl B1.out rfl infoRef (rcs_one _ _ _ H0.out.c1.1 H0.out.c1.2) ?_; intro w5 hb5 hk5) | fail)
    refine bodyPost_ret (v := .tuple #[.agg (rcs d vo vw), .int .i64 2]) ?_ rfl ⟨vo, vw, rfl, H0.out.store B1.out hk5, KW.out.trans_new hk5 (fun k e => .inl (by omega))⟩
    exact dresults_two Hr.out _ _ (w.heap.size + 1) 37 _ (0, 0) _ rfl hb5 Tryz.underlying37 rfl infoRef
  have c1 : decide (n < 96) = false := by simp; omega
  by_cases h2 : 512 < n
  · rw [HBAD.out (by simp only [mayFormat, Bool.and_eq_false_iff, decide_eq_false_iff_not]; omega)]
    have c2 : decide (512 < n) = true := by simp; omega
    go_enter Tryz.func30, Tryz.ntmps30
    go_upto_region 1 with fail
    rw [← HW.out]
    go_wp2_with (first | (refine wpList_load_mid rfl 37 (.tmp 3) rfl w.heap.size 0 rfl (rcs d vo vw).toList _ (Box.range' (L := (rcs d vo vw).toList) B0.out) Tryz.underlying37 rfl infoRef ?_) | (refine dwpList_store_box rfl 37 (.tmp 6) (.tmp 29) rfl (w.heap.size + 1) (rcs d vo vw).toList rfl rfl B1.out rfl infoRef (rcs_one _ _ _ H0.out.c1.1 H0.out.c1.2) ?_; intro w5 hb5 hk5) | fail)
    refine bodyPost_ret (v := .tuple #[.agg (rcs d vo vw), .int .i64 2]) ?_ rfl ⟨vo, vw, rfl, H0.out.store B1.out hk5, KW.out.trans_new hk5 (fun k e => .inl (by omega))⟩
    exact dresults_two Hr.out _ _ (w.heap.size + 1) 37 _ (0, 0) _ rfl hb5 Tryz.underlying37 rfl infoRef
  have c2 : decide (512 < n) = false := by simp; omega
  obtain ⟨m, rfl⟩ : ∃ m : Nat, n = m := ⟨n.toNat, by omega⟩
  have h96 : 96 ≤ m := by omega
  have h512 : m ≤ 512 := by omega
  have cw : IntKind.i64.wrap (2 + (m : Int)) = 2 + (m : Int) := IntWalk.i64_in _ (by omega)
  by_cases h3 : d.on.length < 2 + m
  · rw [HBAD.out (by simp only [mayFormat, Bool.and_eq_false_iff, decide_eq_false_iff_not]; omega)]
    have c3 : decide ((d.on.length : Int) < 2 + (m : Int)) = true := by simp; omega
    go_enter Tryz.func30, Tryz.ntmps30
    go_upto_region 1 with fail
    rw [← HW.out]
    go_wp2_with (first | (refine wpList_load_mid rfl 37 (.tmp 3) rfl w.heap.size 0 rfl (rcs d vo vw).toList _ (Box.range' (L := (rcs d vo vw).toList) B0.out) Tryz.underlying37 rfl infoRef ?_) | (refine dwpList_store_box rfl 37 (.tmp 6) (.tmp 29) rfl (w.heap.size + 1) (rcs d vo vw).toList rfl rfl B1.out rfl infoRef (rcs_one _ _ _ H0.out.c1.1 H0.out.c1.2) ?_; intro w5 hb5 hk5) | fail)
    refine bodyPost_ret (v := .tuple #[.agg (rcs d vo vw), .int .i64 2]) ?_ rfl ⟨vo, vw, rfl, H0.out.store B1.out hk5, KW.out.trans_new hk5 (fun k e => .inl (by omega))⟩
    exact dresults_two Hr.out _ _ (w.heap.size + 1) 37 _ (0, 0) _ rfl hb5 Tryz.underlying37 rfl infoRef
  have c3 : decide ((d.on.length : Int) < 2 + (m : Int)) = false := by simp; omega
  by_cases h4 : 64 < note.length
  · rw [HBAD.out (by simp only [mayFormat, Bool.and_eq_false_iff, decide_eq_false_iff_not]; omega)]
    have c4 : decide (64 < (note.length : Int)) = true := by simp; omega
    go_enter Tryz.func30, Tryz.ntmps30
    go_upto_region 1 with fail
    rw [← HW.out]
    go_wp2_with (first | (refine wpList_load_mid rfl 37 (.tmp 3) rfl w.heap.size 0 rfl (rcs d vo vw).toList _ (Box.range' (L := (rcs d vo vw).toList) B0.out) Tryz.underlying37 rfl infoRef ?_) | (refine dwpList_store_box rfl 37 (.tmp 6) (.tmp 29) rfl (w.heap.size + 1) (rcs d vo vw).toList rfl rfl B1.out rfl infoRef (rcs_one _ _ _ H0.out.c1.1 H0.out.c1.2) ?_; intro w5 hb5 hk5) | fail)
    refine bodyPost_ret (v := .tuple #[.agg (rcs d vo vw), .int .i64 2]) ?_ rfl ⟨vo, vw, rfl, H0.out.store B1.out hk5, KW.out.trans_new hk5 (fun k e => .inl (by omega))⟩
    exact dresults_two Hr.out _ _ (w.heap.size + 1) 37 _ (0, 0) _ rfl hb5 Tryz.underlying37 rfl infoRef
  have c4 : decide (64 < (note.length : Int)) = false := by simp; omega
  have hmay : mayFormat d m note = true := by simp only [mayFormat, Bool.and_eq_true, decide_eq_true_eq]; omega
  rcases hpw : d.power with _ | _
  · rw [HDEAD.out hmay hpw]
    rw [hpw, Bool.not_false] at y2
    go_enter Tryz.func30, Tryz.ntmps30
    go_upto_region 1 with fail
    rw [← HW.out]
    go_wp2_with (first | (refine wpList_load_mid rfl 37 (.tmp 3) rfl w.heap.size 0 rfl (rcs d vo vw).toList _ (Box.range' (L := (rcs d vo vw).toList) B0.out) Tryz.underlying37 rfl infoRef ?_) | (refine dwpList_store_box rfl 37 (.tmp 6) (.tmp 32) rfl (w.heap.size + 1) (rcs d vo vw).toList rfl rfl B1.out rfl infoRef (rcs_one _ _ _ H0.out.c1.1 H0.out.c1.2) ?_; intro w5 hb5 hk5) | fail)
    refine bodyPost_ret (v := .tuple #[.agg (rcs d vo vw), .int .i64 4]) ?_ rfl ⟨vo, vw, rfl, H0.out.store B1.out hk5, KW.out.trans_new hk5 (fun k e => .inl (by omega))⟩
    exact dresults_two Hr.out _ _ (w.heap.size + 1) 37 _ (0, 0) _ rfl hb5 Tryz.underlying37 rfl infoRef
  rw [hpw, Bool.not_true] at y2
  obtain ⟨x0, a0, hxa⟩ : ∃ x0 a0, cntV d.rheads = (x0, a0) := ⟨_, _, rfl⟩
  obtain ⟨r, hr⟩ : ∃ r, nextF (fun i => d.nowAt i) m 1 = r := ⟨_, rfl⟩
  have hrl : r < 18446744073709551616 := by rw [← hr]; exact isNext_lt (nextF_is _ m 1 (by omega)) (by decide)
  have hok := newOk x0.g r m note hrl ⟨h96, h512⟩ (by omega)
  have ha := rheads_at d
  obtain ⟨D9, e9, h9⟩ : ∃ D9 e9, d.putHead (otherI a0) ⟨(x0.g + 1) % 18446744073709551616, r, m, note⟩ = (D9, e9) := ⟨_, _, rfl⟩
  have hgo := HGO.out hmay hpw
  rw [show ((m : Nat) : Int).toNat = m by omega, hxa, hr, h9] at hgo
  rw [hgo]
  rw [hxa] at ha
  have HOT := Lib.hid (fun w : World => other_all a0 ha w)
  have HC : Hid (∀ w : World, Rf w vo vw d → Calls Tryz.prog 57 #[.agg (rcs d vo vw)] w fun e w' => e = .returned (.tuple #[.agg (hcsR x0), .int .i64 a0]) ∧ Kp (fun _ => False) w w') := Lib.hid (fun w hh => by
    have := rcounts_any hh OK.out (by omega)
    rw [show countS (rheadS (d.nowAt 0)) (rheadS (d.nowAt 1)) = d.rheads from rfl, hxa] at this
    exact this)
  have HNX : Hid (∀ w : World, Rf w vo vw d → Calls Tryz.prog 60 #[.agg (rcs d vo vw), .int .i64 m, .int .u64 1] w fun e w' => e = .returned (.int .u64 r) ∧ Kp (fun _ => False) w w') := Lib.hid (fun w hh => by
    have := rnext_any hh OK.out m 1 (by omega) (by omega) (by omega) (by decide)
    rw [hr] at this
    exact this)
  have HPU : Hid (∀ w : World, Rf w vo vw d → Calls Tryz.prog 58 #[.agg (rcs d vo vw), .int .i64 (otherI a0 : Nat), .agg (hcsR ⟨(x0.g + 1) % 18446744073709551616, r, m, note⟩)] w fun e w' => ∃ vo' vw', e = .returned (.tuple #[.agg (rcs D9 vo' vw'), .int .i64 e9]) ∧ Rf w' vo' vw' D9 ∧ Kp (fun _ => False) w w') := Lib.hid (fun w hh => by
    have := rputD_any hh OK.out (otherI a0) _ hok HWT.out
    rwa [h9] at this)
  clear HBAD HDEAD HGO hgo hxa hr hrl hok ha h9 hmay hpw HWT
  go_enter Tryz.func30, Tryz.ntmps30
  go_upto_region 1 with fail
  rw [← HW.out]
  go_upto_region 5 with fail
  go_wp2_with (first | (refine wpList_load_mid rfl 37 (.tmp 3) rfl w.heap.size 0 rfl (rcs d vo vw).toList _ (Box.range' (L := (rcs d vo vw).toList) B0.out) Tryz.underlying37 rfl infoRef ?_) | fail)
  refine (HC.out _ H0.out).mono ?_
  rintro e w5 ⟨rfl, kc⟩
  obtain ⟨g8, hg8⟩ : ∃ g8, w5.heap.size = g8 := ⟨_, rfl⟩
  have BN := Lib.hid (show Box (w5.alloc (.cells #[.int .u64 0, .int .u64 0, .int .i64 0, .string ⟨#[]⟩] 40)) g8 40 #[.int .u64 0, .int .u64 0, .int .i64 0, .string ⟨#[]⟩] by rw [← hg8]; exact Box.new w5 40 #[.int .u64 0, .int .u64 0, .int .i64 0, .string ⟨#[]⟩])
  have KC := Lib.hid (kc.alloc (.cells #[.int .u64 0, .int .u64 0, .int .i64 0, .string ⟨#[]⟩] 40))
  have hsz5 := kc.size
  have HGE := Lib.hid (show W.heap.size ≤ g8 by omega)
  have HG8 := Lib.hid hg8
  clear kc hsz5
  go_upto_region 6 with (first | (try rw [HG8.out]); (refine wpList_store_box rfl 40 (.tmp 8) (.tmp 36) rfl g8 (hcsR x0).toList rfl rfl BN.out rfl info_rhead (hd_one _ _ _ _) ?_; intro wx hb8 hk) | fail)
  have hk8 := KC.out.trans_new hk (fun b e => .inl (by have := HGE.out; omega))
  have HG1 := Lib.hid (show ¬ g8 = (w.heap.size + 1) by have := HWS.out; have := HGE.out; omega)
  have BX8 := Lib.hid hb8
  have BX0 := Lib.hid (B0.out.kp hk8 (fun e => e))
  have BX1 := Lib.hid (B1.out.kp hk8 (fun e => e))
  have HX0 := Lib.hid (H0.out.still hk8)
  have KX := Lib.hid (KW.out.trans hk8)
  have DRX := Lib.hid ((Kp.refl (fun _ => False) wx).drew)
  clear hb8 hk8 hk hg8
  refine wp_region_held_drew (S := fun v => Kp (fun k => k = (w.heap.size + 1)) wx v) (by kernel_rfl) (DRX.out.of_false) (fun hHeld => ?_)
  refine wpAnyH_take (i := 0) (oi := { dst := some 38, op := Op.load 37 (Operand.tmp 3), type := 37, pos := "ref.go:132", after := #[], guard := none }) (v := _) rfl (by kernel_rfl) (by kernel_rfl) (by kernel_rfl) (fun _ _ _ h => h) (yieldsIf_load_mid (by rfl) _ _ rfl w.heap.size 0 rfl (rcs d vo vw).toList _ (fun v hv => Box.range' (L := (rcs d vo vw).toList) (BX0.out.kp hv (fun e => by omega))) Tryz.underlying37 rfl infoRef) (by assumption) ?_
  try simp only [Act.put, List.setIfInBounds_toArray, List.set_cons_zero, List.set_cons_succ]
  refine tk 1 (h := ?_)
  refine tk 3 (h := ?_)
  refine tk 4 (v := ?_) (hy := ?_) (h := ?_)
  rotate_left
  · intro v hSw
    have y : v.cell? ⟨g8, 0, none⟩ = some (.int .u64 x0.g) := (BX8.out.kp hSw (fun e => HG1.out e)).cell 0
    try dsimp only at hSw
    go_simp
    with_reducible rfl
  refine tk 5 (h := ?_)
  refine wpAnyH_take (i := 6) (oi := { dst := some 44, op := Op.load 37 (Operand.tmp 3), type := 37, pos := "ref.go:132", after := #[], guard := none }) (v := _) rfl (by kernel_rfl) (by kernel_rfl) (by kernel_rfl) (fun _ _ _ h => h) (yieldsIf_load_mid (by rfl) _ _ rfl w.heap.size 0 rfl (rcs d vo vw).toList _ (fun v hv => Box.range' (L := (rcs d vo vw).toList) (BX0.out.kp hv (fun e => by omega))) Tryz.underlying37 rfl infoRef) (by assumption) ?_
  try simp only [Act.put, List.setIfInBounds_toArray, List.set_cons_zero, List.set_cons_succ]
  refine tk 7 (h := ?_)
  refine tk 9 (h := ?_)
  refine tk 10 (h := ?_)
  refine rd 2 (h := fun K hK => ?_)
  go_simp
  refine (HOT.out _).mono ?_
  rintro e w5 ⟨rfl, rfl⟩
  go_wp2_with fail
  refine hK.out _ _ (DRX.out.of_false) (fun hHeld15 => ?_)
  clear hK K
  try simp only [Act.put, List.setIfInBounds_toArray, List.set_cons_zero, List.set_cons_succ]
  refine rd 8 (h := fun K hK => ?_)
  go_simp
  refine (HNX.out _ (HX0.out.still DRX.out)).mono ?_
  rintro e w6 ⟨rfl, k6⟩
  go_wp2_with fail
  refine hK.out _ _ ((DRX.out.trans k6).of_false) (fun hHeld16 => ?_)
  clear hK K
  try simp only [Act.put, List.setIfInBounds_toArray, List.set_cons_zero, List.set_cons_succ]
  refine tk 11 (h := ?_)
  refine rd 12 (h := fun K hK => ?_)
  go_simp
  try rw [u64_next]
  refine (HPU.out _ (HX0.out.still (DRX.out.trans k6))).mono ?_
  rintro e w7 ⟨va, vb, rfl, r7, k7⟩
  have R7 := Lib.hid r7
  have S7 := Lib.hid ((DRX.out.trans k6).trans k7)
  have K7 := Lib.hid (KX.out.trans S7.out)
  have BR7 := Lib.hid (BX1.out.kp S7.out (fun e => e))
  clear r7 k7
  go_wp2_with fail
  refine hK.out _ _ (S7.out.of_false) (fun hHeld17 => ?_)
  clear hK K
  try simp only [Act.put, List.setIfInBounds_toArray, List.set_cons_zero, List.set_cons_succ]
  refine tk 13 (h := ?_)
  refine tk 14 (h := ?_)
  refine rd 15 (h := fun K hK => ?_)
  rw [if_pos (by rfl)]
  refine dwp_store_box 37 (.tmp 6) (.tmp 51) rfl (w.heap.size + 1) (rcs D9 va vb).toList rfl rfl BR7.out rfl infoRef (rcs_one _ _ _ R7.out.c1.1 R7.out.c1.2) ?_
  intro w8 hb5 hk5
  refine hK.out _ _ (S7.out.of_false.trans hk5) (fun hHeld18 => ?_)
  clear hK K
  try simp only [Act.put]
  refine tk 16 (h := ?_)
  refine wpAnyH_done (by kernel_rfl) ?_ _
  go_wp2_with fail
  refine bodyPost_ret (v := .tuple #[.agg (rcs D9 va vb), .int .i64 e9]) ?_ rfl ⟨va, vb, rfl, R7.out.store BR7.out hk5, K7.out.trans_new hk5 (fun k e => .inl (by omega))⟩
  exact dresults_two Hr.out _ _ (w.heap.size + 1) 37 _ (0, 0) _ rfl hb5 Tryz.underlying37 rfl infoRef
end Go.Proofs.YtfcljcikajaedaaGreatDoor
