/- What a sector is now, and which head counts, in the document's own words. Conditions: the disk's own. -/
import Derived.Test.YtfcljcikajaedaaGreatDoorMg27
import Derived.Test.YtfcljcikajaedaaGreatDoorMg30
import Derived.Test.YtfcljcikajaedaaGreatDoorMg3
import Derived.IntWalk
namespace Go.Proofs.YtfcljcikajaedaaGreatDoor
open Go.RowKit

set_option maxRecDepth 100000 in
set_option maxHeartbeats 4000000 in
theorem now_any {w : World} {vo vw : Value} {d : Dm} (h : Rf w vo vw d) (ok : d.ok) (a : Nat) (ha : a < d.on.length) :
    Calls Tryz.prog 85 #[.agg (rcs d vo vw), .int .i64 a] w fun e w' => e = .returned (.string ⟨(d.nowAt a).toArray⟩) ∧ Kp (fun _ => False) w w' := by
  obtain ⟨W, hW, hb0, hkw⟩ : ∃ W, W = w.alloc (.cells (rcs d vo vw) 37) ∧ Box W w.heap.size 37 (rcs d vo vw) ∧ Kp (fun _ => False) w W := ⟨_, rfl, Box.new _ _ _, (Kp.refl _ w).alloc _⟩
  have HW := Lib.hid hW
  have B0 := Lib.hid hb0
  have KW := Lib.hid hkw
  have H0 := Lib.hid (h.still hkw)
  have OK := Lib.hid (show d.startS.ok from ⟨ok.few, ok.some, ok.each, ok.at_, ok.long, ok.waits, ok.left_, ok.acts_, ok.keep_⟩)
  have HX := Lib.hid (show d.startS.readS a = (d.nowAt a, 0) by
    have hs : secB d.startS (a : Int) = true := by
      show (decide (0 ≤ (a : Int)) && decide ((a : Int) < d.on.length)) = true
      simp only [Bool.and_eq_true, decide_eq_true_eq]; omega
    unfold Dm.readS
    rw [show d.startS.power = true from rfl, hs]
    rfl)
  clear hb0 hkw hW h ok
  have y2 : W.cell? ⟨w.heap.size, 2, none⟩ = some (.bool (!d.power)) := B0.out.cell 2
  have f2 := B0.out.free 2
  go_enter Tryz.func85, Tryz.ntmps85
  go_upto_region 1 with fail
  rw [← HW.out]
  go_upto_region 2 with fail
  have hb := B0.out.put 2 (.bool false)
  have e : rcs d.startS vo vw = (rcs d vo vw).setIfInBounds 2 (.bool false) := by simp [rcs, Dm.startS, leftZ]; rfl
  rw [← e] at hb
  have hr := (H0.out.cell B0.out 2 (.bool false)).alike (D' := d.startS) rfl rfl
  have hk1 := KW.out.setCell (p := ⟨w.heap.size, 2, none⟩) (.inl (Nat.le_refl _)) (.bool false)
  have HB := Lib.hid hb
  have HR := Lib.hid hr
  have HK1 := Lib.hid hk1
  clear hb hr hk1 y2 f2 e
  go_wp2_with (first | (refine wpList_load_mid rfl 37 (.tmp 2) rfl w.heap.size 0 rfl (rcs d.startS vo vw).toList _ (Box.range' (L := (rcs d.startS vo vw).toList) HB.out) Tryz.underlying37 rfl infoRef ?_) | fail)
  have hrd := rread_any HR.out OK.out a
  rw [HX.out] at hrd
  refine hrd.mono ?_
  clear hrd
  rintro e w2 ⟨rfl, hk⟩
  have K2 := Lib.hid (HK1.out.trans hk)
  clear hk
  go_wp2_with fail
  go_ret
  exact ⟨rfl, K2.out⟩
theorem other_any (a : Nat) (ha : a ≤ 1) (w : World) :
    Calls Tryz.prog 59 #[.int .i64 a] w fun e w' => e = .returned (.int .i64 ((1 - a : Nat) : Int)) ∧ w = w' := by
  rcases (by omega : a = 0 ∨ a = 1) with rfl | rfl
  · go_enter Tryz.func59, Tryz.ntmps59
    go_wp2_with fail
    go_ret
    exact ⟨rfl, rfl⟩
  · go_enter Tryz.func59, Tryz.ntmps59
    go_wp2_with fail
    go_ret
    exact ⟨rfl, rfl⟩
theorem other_none (w : World) :
    Calls Tryz.prog 59 #[.int .i64 (-1)] w fun e w' => e = .returned (.int .i64 1) ∧ w = w' := by
  go_enter Tryz.func59, Tryz.ntmps59
  go_wp2_with fail
  go_ret
  exact ⟨rfl, rfl⟩
/-- What Counts answers. -/
def cntV : Option (Hd × Nat) → Hd × Int
  | some (h, a) => (h, a)
  | none => (⟨0, 0, 0, []⟩, -1)
theorem counts_results : Tryz.f57.results = #[.cell 2 40, .tmp 3] := rfl
set_option maxRecDepth 100000 in
set_option maxHeartbeats 8000000 in
theorem rcounts_any {w : World} {vo vw : Value} {d : Dm} (h : Rf w vo vw d) (ok : d.ok) (h2 : 2 ≤ d.on.length) :
    Calls Tryz.prog 57 #[.agg (rcs d vo vw)] w fun e w' => e = .returned (.tuple #[.agg (hcsR (cntV (countS (rheadS (d.nowAt 0)) (rheadS (d.nowAt 1)))).1), .int .i64 (cntV (countS (rheadS (d.nowAt 0)) (rheadS (d.nowAt 1)))).2]) ∧ Kp (fun _ => False) w w' := by
  obtain ⟨W, hW, hb0, hb1, hkw⟩ : ∃ W, W = (w.alloc (.cells (rcs d vo vw) 37)).alloc (.cells #[.int .u64 0, .int .u64 0, .int .i64 0, .string ⟨#[]⟩] 40) ∧ Box W w.heap.size 37 (rcs d vo vw) ∧ Box W (w.heap.size + 1) 40 #[.int .u64 0, .int .u64 0, .int .i64 0, .string ⟨#[]⟩] ∧ Kp (fun _ => False) w W := by
    refine ⟨_, rfl, (Box.new w _ _).alloc _, ?_, ((Kp.refl _ w).alloc _).alloc _⟩
    have := Box.new (w.alloc (.cells (rcs d vo vw) 37)) 40 #[.int .u64 0, .int .u64 0, .int .i64 0, .string ⟨#[]⟩]
    rwa [World.size_alloc] at this
  have HW := Lib.hid hW
  have B0 := Lib.hid hb0
  have B1 := Lib.hid hb1
  have KW := Lib.hid hkw
  have H0 := Lib.hid (h.still hkw)
  have OK := Lib.hid ok
  obtain ⟨l0, hl0⟩ : ∃ l, d.nowAt 0 = l := ⟨_, rfl⟩
  obtain ⟨l1, hl1⟩ : ∃ l, d.nowAt 1 = l := ⟨_, rfl⟩
  have HL0 := Lib.hid hl0
  have HL1 := Lib.hid hl1
  rw [hl0, hl1]
  clear hb0 hb1 hkw hW h ok hl0 hl1
  go_enter Tryz.func57, Tryz.ntmps57
  go_upto_region 1 with fail
  rw [← HW.out]
  go_wp2_with (first | (refine wpList_load_mid rfl 37 (.tmp 1) rfl w.heap.size 0 rfl (rcs d vo vw).toList _ (Box.range' (L := (rcs d vo vw).toList) B0.out) Tryz.underlying37 rfl infoRef ?_) | fail)
  have hn := now_any H0.out OK.out 0 (by omega)
  rw [HL0.out] at hn
  refine hn.mono ?_
  clear hn
  rintro e w1 ⟨rfl, hk⟩
  have H1 := Lib.hid (H0.out.still hk)
  have B0a := Lib.hid (B0.out.kp hk (fun e => e))
  have B1a := Lib.hid (B1.out.kp hk (fun e => e))
  have K1 := Lib.hid (KW.out.trans hk)
  clear hk
  go_wp2_with fail
  refine (hrtake_any l0 w1).mono ?_
  rintro e w2 ⟨x0, rfl, hx0, hk⟩
  obtain ⟨b0, hb0⟩ : ∃ b, (rheadS l0).isSome = b := ⟨_, rfl⟩
  rw [hb0]
  have HB0 := Lib.hid hb0
  clear hb0
  have H2 := Lib.hid (H1.out.still hk)
  have B0b := Lib.hid (B0a.out.kp hk (fun e => e))
  have B1b := Lib.hid (B1a.out.kp hk (fun e => e))
  have K2 := Lib.hid (K1.out.trans hk)
  have HX0 := Lib.hid hx0
  clear hk hx0
  go_upto_region 2 with (first | (refine wpList_store_box rfl 40 (.tmp 4) (.tmp 12) rfl w2.heap.size (hcsR x0).toList rfl rfl (Box.new w2 _ _) rfl info_rhead (hd_one _ _ _ _) ?_; intro W3 hb3 hk3; have kk3 : Kp (fun _ => False) w2 W3 := ((Kp.refl (fun _ => False) w2).alloc _).trans_new hk3 (fun b e => .inl (by omega)); have H3 := Lib.hid (H2.out.still kk3); have B0c := Lib.hid (B0b.out.kp kk3 (fun e => e)); have B1c := Lib.hid (B1b.out.kp kk3 (fun e => e)); have K3 := Lib.hid (K2.out.trans kk3); have B4 := Lib.hid hb3; clear hb3 hk3 kk3) | fail)
  have hg4 : w.heap.size + 1 < w2.heap.size := B1b.out.lt
  go_wp2_with (first | (refine wpList_load_mid rfl 37 (.tmp 1) rfl w.heap.size 0 rfl (rcs d vo vw).toList _ (Box.range' (L := (rcs d vo vw).toList) B0c.out) Tryz.underlying37 rfl infoRef ?_) | fail)
  have hn := now_any H3.out OK.out 1 (by omega)
  rw [HL1.out] at hn
  refine hn.mono ?_
  clear hn
  rintro e w4 ⟨rfl, hk⟩
  have B1d := Lib.hid (B1c.out.kp hk (fun e => e))
  have B4a := Lib.hid (B4.out.kp hk (fun e => e))
  have K4 := Lib.hid (K3.out.trans hk)
  clear hk
  go_wp2_with fail
  refine (hrtake_any l1 w4).mono ?_
  rintro e w5 ⟨x1, rfl, hx1, hk⟩
  obtain ⟨b1, hb1⟩ : ∃ b, (rheadS l1).isSome = b := ⟨_, rfl⟩
  rw [hb1]
  have HB1 := Lib.hid hb1
  clear hb1
  have B1e := Lib.hid (B1d.out.kp hk (fun e => e))
  have B4b := Lib.hid (B4a.out.kp hk (fun e => e))
  have K5 := Lib.hid (K4.out.trans hk)
  have HX1 := Lib.hid hx1
  clear hk hx1
  go_upto_region 3 with (first | (refine wpList_store_box rfl 40 (.tmp 6) (.tmp 18) rfl w5.heap.size (hcsR x1).toList rfl rfl (Box.new w5 _ _) rfl info_rhead (hd_one _ _ _ _) ?_; intro W6 hb6 hk6; have kk6 : Kp (fun _ => False) w5 W6 := ((Kp.refl (fun _ => False) w5).alloc _).trans_new hk6 (fun b e => .inl (by omega)); have B1f := Lib.hid (B1e.out.kp kk6 (fun e => e)); have B4c := Lib.hid (B4b.out.kp kk6 (fun e => e)); have K6 := Lib.hid (K5.out.trans kk6); have B6 := Lib.hid hb6; clear hb6 hk6 kk6) | fail)
  have c4 : W6.cell? ⟨w2.heap.size, 0, none⟩ = some (.int .u64 x0.g) := B4c.out.cell 0
  have c6 : W6.cell? ⟨w5.heap.size, 0, none⟩ = some (.int .u64 x1.g) := B6.out.cell 0
  clear hg4
  obtain ⟨r0, hr0⟩ : ∃ r, rheadS l0 = r := ⟨_, rfl⟩
  obtain ⟨r1, hr1⟩ : ∃ r, rheadS l1 = r := ⟨_, rfl⟩
  rw [hr0] at HX0 HB0
  rw [hr1] at HX1 HB1
  have HR0 := Lib.hid hr0
  have HR1 := Lib.hid hr1
  clear hr0 hr1 HL0 HL1
  rcases r0 with _ | a
  · obtain rfl : b0 = false := HB0.out.symm
    rcases r1 with _ | b
    · obtain rfl : b1 = false := HB1.out.symm
      go_wp2_with (first | (refine wpList_store_box rfl 40 (.tmp 2) (.tmp 35) rfl (w.heap.size + 1) (hcsR ⟨0, 0, 0, []⟩).toList rfl rfl B1f.out rfl info_rhead (hd_one _ _ _ _) ?_; intro W7 hb hk) | fail)
      refine bodyPost_ret (v := .tuple #[.agg (hcsR ⟨0, 0, 0, []⟩), .int .i64 (-1)]) ?_ rfl ⟨by rw [HR0.out, HR1.out]; rfl, K6.out.trans_new hk (fun b e => .inl (by omega))⟩
      exact results_two counts_results _ _ (w.heap.size + 1) 40 _ (0, 0) _ rfl hb Tryz.underlying40 rfl info_rhead
    · obtain rfl : b1 = true := HB1.out.symm
      obtain rfl := HX1.out b rfl
      go_wp2_with (first | (refine wpList_load_mid rfl 40 (.tmp 6) rfl w5.heap.size 0 rfl (hcsR x1).toList _ (Box.range' (L := (hcsR x1).toList) B6.out) Tryz.underlying40 rfl info_rhead ?_) | (refine wpList_store_box rfl 40 (.tmp 2) (.tmp 34) rfl (w.heap.size + 1) (hcsR x1).toList rfl rfl B1f.out rfl info_rhead (hd_one _ _ _ _) ?_; intro W7 hb hk) | fail)
      refine bodyPost_ret (v := .tuple #[.agg (hcsR x1), .int .i64 1]) ?_ rfl ⟨by rw [HR0.out, HR1.out]; rfl, K6.out.trans_new hk (fun b e => .inl (by omega))⟩
      exact results_two counts_results _ _ (w.heap.size + 1) 40 _ (0, 0) _ rfl hb Tryz.underlying40 rfl info_rhead
  · obtain rfl : b0 = true := HB0.out.symm
    obtain rfl := HX0.out a rfl
    rcases r1 with _ | b
    · obtain rfl : b1 = false := HB1.out.symm
      go_wp2_with (first | (refine wpList_load_mid rfl 40 (.tmp 4) rfl w2.heap.size 0 rfl (hcsR x0).toList _ (Box.range' (L := (hcsR x0).toList) B4c.out) Tryz.underlying40 rfl info_rhead ?_) | (refine wpList_store_box rfl 40 (.tmp 2) (.tmp 32) rfl (w.heap.size + 1) (hcsR x0).toList rfl rfl B1f.out rfl info_rhead (hd_one _ _ _ _) ?_; intro W7 hb hk) | fail)
      refine bodyPost_ret (v := .tuple #[.agg (hcsR x0), .int .i64 0]) ?_ rfl ⟨by rw [HR0.out, HR1.out]; rfl, K6.out.trans_new hk (fun b e => .inl (by omega))⟩
      exact results_two counts_results _ _ (w.heap.size + 1) 40 _ (0, 0) _ rfl hb Tryz.underlying40 rfl info_rhead
    · obtain rfl : b1 = true := HB1.out.symm
      obtain rfl := HX1.out b rfl
      by_cases hge : x1.g ≤ x0.g
      · have hd : decide ((x1.g : Int) ≤ (x0.g : Int)) = true := by simp; omega
        have hd2 : decide ((x0.g : Int) < (x1.g : Int)) = false := by simp; omega
        have hd3 : (x1.g : Int) ≤ x0.g := by omega
        have HC := Lib.hid (show countS (some x0) (some x1) = some (x0, 0) by simp only [countS]; rw [if_neg (by omega)])
        clear hge
        go_wp2_with (first | (refine wpList_load_mid rfl 40 (.tmp 4) rfl w2.heap.size 0 rfl (hcsR x0).toList _ (Box.range' (L := (hcsR x0).toList) B4c.out) Tryz.underlying40 rfl info_rhead ?_) | (refine wpList_store_box rfl 40 (.tmp 2) (.tmp 32) rfl (w.heap.size + 1) (hcsR x0).toList rfl rfl B1f.out rfl info_rhead (hd_one _ _ _ _) ?_; intro W7 hb hk) | fail)
        refine bodyPost_ret (v := .tuple #[.agg (hcsR x0), .int .i64 0]) ?_ rfl ⟨by rw [HR0.out, HR1.out, HC.out]; rfl, K6.out.trans_new hk (fun b e => .inl (by omega))⟩
        exact results_two counts_results _ _ (w.heap.size + 1) 40 _ (0, 0) _ rfl hb Tryz.underlying40 rfl info_rhead
      · have hd : decide ((x1.g : Int) ≤ (x0.g : Int)) = false := by simp; omega
        have hd2 : decide ((x0.g : Int) < (x1.g : Int)) = true := by simp; omega
        have hd3 : ¬ ((x1.g : Int) ≤ x0.g) := by omega
        have HC := Lib.hid (show countS (some x0) (some x1) = some (x1, 1) by simp only [countS]; rw [if_pos (by omega)])
        clear hge
        go_wp2_with (first | (refine wpList_load_mid rfl 40 (.tmp 6) rfl w5.heap.size 0 rfl (hcsR x1).toList _ (Box.range' (L := (hcsR x1).toList) B6.out) Tryz.underlying40 rfl info_rhead ?_) | (refine wpList_store_box rfl 40 (.tmp 2) (.tmp 34) rfl (w.heap.size + 1) (hcsR x1).toList rfl rfl B1f.out rfl info_rhead (hd_one _ _ _ _) ?_; intro W7 hb hk) | fail)
        refine bodyPost_ret (v := .tuple #[.agg (hcsR x1), .int .i64 1]) ?_ rfl ⟨by rw [HR0.out, HR1.out, HC.out]; rfl, K6.out.trans_new hk (fun b e => .inl (by omega))⟩
        exact results_two counts_results _ _ (w.heap.size + 1) 40 _ (0, 0) _ rfl hb Tryz.underlying40 rfl info_rhead
end Go.Proofs.YtfcljcikajaedaaGreatDoor

/- The sheet on a sector, in the document's own words. Conditions: the disk's own; 1 to 65,535 sectors. -/
namespace Go.Proofs.YtfcljcikajaedaaGreatDoor
open Go.RowKit

theorem rsheet_results : Tryz.f87.results = #[.cell 6 102, .tmp 7] := rfl
theorem shc_one (a : Int) (b : Bool) (s : ByteArray) : ∀ v ∈ ([.int .u64 a, .bool b, .string s] : List Value), v.oneCell' = true := fun v hv => by
  simp only [List.mem_cons, List.not_mem_nil, or_false] at hv
  rcases hv with rfl | rfl | rfl <;> rfl
set_option maxRecDepth 100000 in
set_option maxHeartbeats 4000000 in
theorem rsheet_bad {w : World} {vo vw : Value} {d : Dm} (h : Rf w vo vw d) (ok : d.ok) (a n : Nat) (ha : a < d.on.length) (q : Nat) (bl : Bool) (st : ByteArray) (er : Int) (he : (er == 0) = false) (HTK : Hid (takeV (d.nowAt a) = .tuple #[.agg #[.int .u64 q, .bool bl, .string st], .int .i64 er])) :
    Calls Tryz.prog 87 #[.agg (rcs d vo vw), .int .i64 a, .int .i64 n] w fun e w' => e = .returned (.tuple #[.agg #[.int .u64 q, .bool bl, .string st], .bool false]) ∧ Kp (fun _ => False) w w' := by
  obtain ⟨W, hW, hb0, hb1, hkw⟩ : ∃ W, W = (w.alloc (.cells (rcs d vo vw) 37)).alloc (.cells #[.int .u64 0, .bool false, .string ⟨#[]⟩] 102) ∧ Box W w.heap.size 37 (rcs d vo vw) ∧ Box W (w.heap.size + 1) 102 #[.int .u64 0, .bool false, .string ⟨#[]⟩] ∧ Kp (fun _ => False) w W := by
    refine ⟨_, rfl, (Box.new w _ _).alloc _, ?_, ((Kp.refl _ w).alloc _).alloc _⟩
    have := Box.new (w.alloc (.cells (rcs d vo vw) 37)) 102 #[.int .u64 0, .bool false, .string ⟨#[]⟩]
    rwa [World.size_alloc] at this
  have HW := Lib.hid hW
  have B0 := Lib.hid hb0
  have R0 := Lib.hid hb1
  have KW := Lib.hid hkw
  have HNOW := Lib.hid (now_any (h.still hkw) ok a ha)
  obtain ⟨x, hx⟩ : ∃ x, d.nowAt a = x := ⟨_, rfl⟩
  rw [hx] at HNOW HTK
  clear hW hb0 hb1 hkw h ok hx
  go_enter Tryz.func87, Tryz.ntmps87
  go_upto_region 1 with fail
  rw [← HW.out]
  go_wp2_with (first | (refine wpList_load_mid rfl 37 (.tmp 3) rfl w.heap.size 0 rfl (rcs d vo vw).toList _ (Box.range' (L := (rcs d vo vw).toList) B0.out) Tryz.underlying37 rfl infoRef ?_) | fail)
  refine (HNOW.out).mono ?_
  rintro e w1 ⟨rfl, hk⟩
  have B1 := Lib.hid (R0.out.kp hk (fun e => e))
  have K1 := Lib.hid (KW.out.trans hk)
  clear hk
  go_wp2_with fail
  have ht := rtake_any x w1
  rw [HTK.out] at ht
  refine ht.mono ?_
  clear ht
  rintro e w2 ⟨rfl, hk⟩
  have B2 := Lib.hid (B1.out.kp hk (fun e => e))
  have K2 := Lib.hid (K1.out.trans hk)
  clear hk
  go_upto_region 2 with (first | (refine wpList_store_box rfl 102 (.tmp 8) (.tmp 15) rfl w2.heap.size [.int .u64 q, .bool bl, .string st] rfl rfl (Box.new w2 _ _) rfl info_rsheet (shc_one _ _ _) ?_; intro w3 hb3 hk3) | fail)
  have kk3 : Kp (fun _ => False) w2 w3 := ((Kp.refl (fun _ => False) w2).alloc _).trans_new hk3 (fun b e => .inl (by omega))
  have K3 := Lib.hid (K2.out.trans kk3)
  have R3 := Lib.hid (B2.out.kp kk3 (fun e => e))
  obtain ⟨g8, hg8⟩ : ∃ g8, w2.heap.size = g8 := ⟨_, rfl⟩
  rw [hg8] at hb3
  have HG8 := Lib.hid (show w.heap.size + 1 < g8 by rw [← hg8]; exact B2.out.lt)
  have HGE := Lib.hid hg8
  have B3 := Lib.hid hb3
  rw [HGE.out]
  clear hb3 hk3 kk3 hg8
  refine wp_region_held_drew (S := fun v => v.cell? ⟨g8, 0, none⟩ = some (.int .u64 q) ∧ v.cell? ⟨g8, 1, none⟩ = some (.bool bl) ∧ v.cell? ⟨g8, 2, none⟩ = some (.string st)) (by kernel_rfl) (⟨B3.out.drew.cell 0, B3.out.drew.cell 1, B3.out.drew.cell 2⟩) (fun hHeld => ?_)
  refine tk 0 (h := ?_)
  refine tk 1 (h := ?_)
  refine tk 2 (h := ?_)
  refine tk 3 (h := ?_)
  refine sk 4 (h := ?_)
  refine sk 5 (h := ?_)
  refine sk 6 (h := ?_)
  refine sk 7 (h := ?_)
  refine sk 8 (h := ?_)
  refine sk 9 (h := ?_)
  refine sk 10 (h := ?_)
  refine sk 11 (h := ?_)
  refine sk 12 (h := ?_)
  refine tk 13 (h := ?_)
  refine rd 14 (h := fun K hK => ?_)
  rw [if_pos (by rfl)]
  refine wp_store_box 102 (.tmp 6) (.tmp 17) rfl (w.heap.size + 1) [.int .u64 q, .bool bl, .string st] rfl rfl R3.out.drew rfl info_rsheet (shc_one _ _ _) ?_
  intro w5 hb5 hk5
  have B5 := Lib.hid (B3.out.drew.kp hk5 (fun e => by have := HG8.out; omega))
  have R5 := Lib.hid hb5
  have K5 := Lib.hid (K3.out.drew.trans_new hk5 (fun b e => .inl (by omega)))
  clear hb5 hk5
  refine hK.out _ _ (⟨B5.out.cell 0, B5.out.cell 1, B5.out.cell 2⟩) (fun hHeld1 => ?_)
  clear hK K
  try simp only [Act.put]
  refine tk 15 (h := ?_)
  refine wpAnyH_done (by kernel_rfl) ?_ _
  go_wp2_with fail
  refine bodyPost_ret (v := .tuple #[.agg #[.int .u64 q, .bool bl, .string st], .bool false]) ?_ rfl ⟨rfl, K5.out⟩
  exact results_two rsheet_results _ _ (w.heap.size + 1) 102 _ (0, 0) _ rfl R5.out Tryz.underlying102 rfl info_rsheet
set_option maxRecDepth 100000 in
set_option maxHeartbeats 4000000 in
theorem rsheet_good {w : World} {vo vw : Value} {d : Dm} (h : Rf w vo vw d) (ok : d.ok) (a n : Nat) (ha : a < d.on.length) (_ha2 : a < 1073741824) (h1 : 1 ≤ n) (hn : n < 65536) (q : Nat) (hq : q < 18446744073709551616) (bl : Bool) (st : ByteArray) (HTK : Hid (takeV (d.nowAt a) = .tuple #[.agg #[.int .u64 q, .bool bl, .string st], .int .i64 0])) :
    Calls Tryz.prog 87 #[.agg (rcs d vo vw), .int .i64 a, .int .i64 n] w fun e w' => e = .returned (.tuple #[.agg #[.int .u64 q, .bool bl, .string st], .bool (decide (2 + q % n = a))]) ∧ Kp (fun _ => False) w w' := by
  obtain ⟨W, hW, hb0, hb1, hkw⟩ : ∃ W, W = (w.alloc (.cells (rcs d vo vw) 37)).alloc (.cells #[.int .u64 0, .bool false, .string ⟨#[]⟩] 102) ∧ Box W w.heap.size 37 (rcs d vo vw) ∧ Box W (w.heap.size + 1) 102 #[.int .u64 0, .bool false, .string ⟨#[]⟩] ∧ Kp (fun _ => False) w W := by
    refine ⟨_, rfl, (Box.new w _ _).alloc _, ?_, ((Kp.refl _ w).alloc _).alloc _⟩
    have := Box.new (w.alloc (.cells (rcs d vo vw) 37)) 102 #[.int .u64 0, .bool false, .string ⟨#[]⟩]
    rwa [World.size_alloc] at this
  have HW := Lib.hid hW
  have B0 := Lib.hid hb0
  have R0 := Lib.hid hb1
  have KW := Lib.hid hkw
  have HNOW := Lib.hid (now_any (h.still hkw) ok a ha)
  obtain ⟨x, hx⟩ : ∃ x, d.nowAt a = x := ⟨_, rfl⟩
  rw [hx] at HNOW HTK
  clear hW hb0 hb1 hkw h ok hx
  have hm := Nat.mod_lt q (by omega : 0 < n)
  have hrm : (q : Int).tmod (n : Int) = ((q % n : Nat) : Int) := by rw [Int.tmod_eq_emod_of_nonneg (by omega)]; exact (Int.natCast_emod q n).symm
  have hrm2 : (q : Int) % (n : Int) = ((q % n : Nat) : Int) := (Int.natCast_emod q n).symm
  obtain ⟨bb, hbb⟩ : ∃ bb, decide (2 + q % n = a) = bb := ⟨_, rfl⟩
  obtain ⟨m, hme⟩ : ∃ m, q % n = m := ⟨_, rfl⟩
  rw [hme] at hm hrm hrm2
  have hcn : IntKind.u64.wrap (n : Int) = (n : Int) := by rw [IntKind.wrap_u64]; omega
  have hwm : IntKind.u64.wrap (m : Int) = (m : Int) := by rw [IntKind.wrap_u64]; omega
  have hwi : IntKind.i64.wrap (m : Int) = (m : Int) := IntWalk.i64_in _ (by omega)
  obtain ⟨p, hp⟩ : ∃ p : Nat, 2 + m = p := ⟨_, rfl⟩
  have hadd : IntKind.i64.wrap (p : Int) = (p : Int) := IntWalk.i64_in _ (by omega)
  have hadd2 : (2 : Int) + (m : Int) = (p : Int) := by omega
  have hcmp : ((p : Int) == (a : Int)) = bb := by
    rw [← hbb, hme, hp, Bool.eq_iff_iff]
    simp
    omega
  have hn0 : ((n : Int) == 0) = false := by simp; omega
  have hn1 : ¬ n = 0 := by omega
  rw [hbb]
  clear hbb hme hp hm hq _ha2 hn h1
  go_enter Tryz.func87, Tryz.ntmps87
  go_upto_region 1 with fail
  rw [← HW.out]
  go_wp2_with (first | (refine wpList_load_mid rfl 37 (.tmp 3) rfl w.heap.size 0 rfl (rcs d vo vw).toList _ (Box.range' (L := (rcs d vo vw).toList) B0.out) Tryz.underlying37 rfl infoRef ?_) | fail)
  refine (HNOW.out).mono ?_
  rintro e w1 ⟨rfl, hk⟩
  have B1 := Lib.hid (R0.out.kp hk (fun e => e))
  have K1 := Lib.hid (KW.out.trans hk)
  clear hk
  go_wp2_with fail
  have ht := rtake_any x w1
  rw [HTK.out] at ht
  refine ht.mono ?_
  clear ht
  rintro e w2 ⟨rfl, hk⟩
  have B2 := Lib.hid (B1.out.kp hk (fun e => e))
  have K2 := Lib.hid (K1.out.trans hk)
  clear hk
  go_upto_region 2 with (first | (refine wpList_store_box rfl 102 (.tmp 8) (.tmp 15) rfl w2.heap.size [.int .u64 q, .bool bl, .string st] rfl rfl (Box.new w2 _ _) rfl info_rsheet (shc_one _ _ _) ?_; intro w3 hb3 hk3) | fail)
  have kk3 : Kp (fun _ => False) w2 w3 := ((Kp.refl (fun _ => False) w2).alloc _).trans_new hk3 (fun b e => .inl (by omega))
  have K3 := Lib.hid (K2.out.trans kk3)
  have R3 := Lib.hid (B2.out.kp kk3 (fun e => e))
  obtain ⟨g8, hg8⟩ : ∃ g8, w2.heap.size = g8 := ⟨_, rfl⟩
  rw [hg8] at hb3
  have HG8 := Lib.hid (show w.heap.size + 1 < g8 by rw [← hg8]; exact B2.out.lt)
  have HGE := Lib.hid hg8
  have B3 := Lib.hid hb3
  rw [HGE.out]
  clear hb3 hk3 kk3 hg8
  refine wp_region_held_drew (S := fun v => v.cell? ⟨g8, 0, none⟩ = some (.int .u64 q) ∧ v.cell? ⟨g8, 1, none⟩ = some (.bool bl) ∧ v.cell? ⟨g8, 2, none⟩ = some (.string st)) (by kernel_rfl) (⟨B3.out.drew.cell 0, B3.out.drew.cell 1, B3.out.drew.cell 2⟩) (fun hHeld => ?_)
  refine tk 0 (h := ?_)
  refine tk 1 (h := ?_)
  refine tk 2 (h := ?_)
  refine tk 3 (h := ?_)
  refine tk 4 (h := ?_)
  refine tk 5 (h := ?_)
  refine tk 6 (h := ?_)
  refine tk 7 (h := ?_)
  refine tk 8 (h := ?_)
  refine tk 9 (h := ?_)
  refine tk 10 (h := ?_)
  refine tk 11 (h := ?_)
  refine tk 12 (h := ?_)
  refine tk 13 (h := ?_)
  refine rd 14 (h := fun K hK => ?_)
  rw [if_pos (by rfl)]
  refine wp_store_box 102 (.tmp 6) (.tmp 17) rfl (w.heap.size + 1) [.int .u64 q, .bool bl, .string st] rfl rfl R3.out.drew rfl info_rsheet (shc_one _ _ _) ?_
  intro w5 hb5 hk5
  have B5 := Lib.hid (B3.out.drew.kp hk5 (fun e => by have := HG8.out; omega))
  have R5 := Lib.hid hb5
  have K5 := Lib.hid (K3.out.drew.trans_new hk5 (fun b e => .inl (by omega)))
  clear hb5 hk5
  refine hK.out _ _ (⟨B5.out.cell 0, B5.out.cell 1, B5.out.cell 2⟩) (fun hHeld2 => ?_)
  clear hK K
  try simp only [Act.put]
  refine tk 15 (h := ?_)
  refine wpAnyH_done (by kernel_rfl) ?_ _
  go_wp2_with fail
  refine bodyPost_ret (v := .tuple #[.agg #[.int .u64 q, .bool bl, .string st], .bool bb]) ?_ rfl ⟨rfl, K5.out⟩
  exact results_two rsheet_results _ _ (w.heap.size + 1) 102 _ (0, 0) _ rfl R5.out Tryz.underlying102 rfl info_rsheet
end Go.Proofs.YtfcljcikajaedaaGreatDoor

/- The next number of a log, in the document's own words. Conditions: the disk's own; 1 to 65,535 sectors. -/
namespace Go.Proofs.YtfcljcikajaedaaGreatDoor
open Go.RowKit

/-- The sheet on a sector, and what it says of the next number. -/
theorem rsheet_up {d : Dm} (ok : d.ok) (n k : Nat) (hk : k < n) (ha : 2 + k < d.on.length) (hn : n < 65536) : ∃ (q : Nat) (bl : Bool) (st : ByteArray) (b : Bool),
    (∀ (w : World) (vo vw : Value), Rf w vo vw d → Calls Tryz.prog 87 #[.agg (rcs d vo vw), .int .i64 ((2 + k : Nat) : Int), .int .i64 n] w fun e w' => e = .returned (.tuple #[.agg #[.int .u64 q, .bool bl, .string st], .bool b]) ∧ Kp (fun _ => False) w w') ∧
    ∀ m, upS (fun i => d.nowAt i) n m k = if b = true ∧ m < (q + 1) % 18446744073709551616 then (q + 1) % 18446744073709551616 else m := by
  have hlen := ok.few
  rcases hx : takeS (d.nowAt (2 + k)) with _ | s
  · refine ⟨0, false, ⟨#[]⟩, false, fun w vo vw h => rsheet_bad h ok (2 + k) n ha 0 false ⟨#[]⟩ 3 rfl (Lib.hid (takeV_none hx)), fun m => ?_⟩
    unfold upS
    rw [hx]
    simp
  · have hq := (takeS_lt hx).1
    refine ⟨s.q, s.last, ⟨s.t.toArray⟩, decide (2 + s.q % n = 2 + k), fun w vo vw h => rsheet_good h ok (2 + k) n ha (by omega) (by omega) hn s.q hq s.last ⟨s.t.toArray⟩ (Lib.hid (takeV_some hx)), fun m => ?_⟩
    unfold upS
    rw [hx]
    simp only
    by_cases h1 : s.q % n = k
    · have h2 : 2 + s.q % n = 2 + k := by omega
      by_cases h3 : m < (s.q + 1) % 18446744073709551616
      · rw [if_pos ⟨h1, h3⟩, if_pos ⟨by simpa using h2, h3⟩]
      · rw [if_neg (fun h => h3 h.2), if_neg (fun h => h3 h.2)]
    · rw [if_neg (fun h => h1 h.1), if_neg (fun h => h1 (by have := h.1; simp at this; omega))]
set_option maxRecDepth 100000 in
set_option maxHeartbeats 4000000 in
theorem rnext_any {w : World} {vo vw : Value} {d : Dm} (h : Rf w vo vw d) (ok : d.ok) (n f : Nat) (h1 : 1 ≤ n) (hn : n < 65536) (hnl : 2 + n ≤ d.on.length) (_hf : f < 18446744073709551616) :
    Calls Tryz.prog 60 #[.agg (rcs d vo vw), .int .i64 n, .int .u64 f] w fun e w' => e = .returned (.int .u64 ((nextF (fun i => d.nowAt i) n f : Nat) : Int)) ∧ Kp (fun _ => False) w w' := by
  obtain ⟨W, hW, hb0, hkw⟩ : ∃ W, W = w.alloc (.cells (rcs d vo vw) 37) ∧ Box W w.heap.size 37 (rcs d vo vw) ∧ Kp (fun _ => False) w W := ⟨_, rfl, Box.new _ _ _, (Kp.refl _ w).alloc _⟩
  have HW := Lib.hid hW
  have B0 := Lib.hid hb0
  have KW := Lib.hid hkw
  have H0 := Lib.hid (h.still hkw)
  have HUP := Lib.hid (fun k hk => rsheet_up ok n k hk (by omega) hn)
  have HST := Lib.hid (show ∀ k, (List.range (k + 1)).foldl (upS (fun i => d.nowAt i) n) f = upS (fun i => d.nowAt i) n ((List.range k).foldl (upS (fun i => d.nowAt i) n) f) k from fun k => by rw [List.range_succ, List.foldl_append]; rfl)
  have HZ := Lib.hid (show (List.range 0).foldl (upS (fun i => d.nowAt i) n) f = f from rfl)
  have HE := Lib.hid (show nextF (fun i => d.nowAt i) n f = (List.range n).foldl (upS (fun i => d.nowAt i) n) f from rfl)
  obtain ⟨F, hF⟩ : ∃ F : Nat → Nat, F = fun k => (List.range k).foldl (upS (fun i => d.nowAt i) n) f := ⟨_, rfl⟩
  have HFF : Hid (∀ k, F k = (List.range k).foldl (upS (fun i => d.nowAt i) n) f) := Lib.hid (fun k => congrFun hF k)
  have hni : (n : Int) ≤ 65536 := by omega
  rw [HE.out]
  rw [← HFF.out n]
  clear hb0 hkw hW h hF hnl
  have HF0 : Hid (F 0 = f) := Lib.hid ((HFF.out 0).trans HZ.out)
  go_enter Tryz.func60, Tryz.ntmps60
  go_upto_region 1 with fail
  rw [← HW.out]
  go_wp2_with fail
  go_loopw [2, 7] (fun u i wr => ∃ k : Nat, k ≤ n ∧ i = .int .i64 ((2 + k : Nat) : Int) ∧ u = .int .u64 ((F k : Nat) : Int) ∧ Kp (fun _ => False) W wr)
    (fun _ i _ => 2 + n - (intOf i).toNat)
  case atStart => exact ⟨0, Nat.zero_le _, rfl, by rw [HF0.out], Kp.refl _ _⟩
  case round =>
    obtain ⟨k, hk, rfl, rfl, hkw⟩ := hrel
    have B0r := Lib.hid (B0.out.kp hkw (fun e => e))
    have H0r := Lib.hid (H0.out.still hkw)
    have Kr := Lib.hid hkw
    have HF := Lib.hid ((HFF.out (k + 1)).trans ((HST.out k).trans (by rw [← HFF.out k])))
    obtain ⟨m, hm⟩ : ∃ m, F k = m := ⟨_, rfl⟩
    have HM := Lib.hid hm
    rw [hm] at HF ⊢
    clear hkw hm
    by_cases hlt : k < n
    · obtain ⟨q, bl, st, b, hc, hu⟩ := HUP.out k hlt
      have HC := Lib.hid (hc wr vo vw H0r.out)
      have HU := Lib.hid (hu m)
      have hwr : IntKind.u64.wrap ((q : Int) + 1) = (((q + 1) % 18446744073709551616 : Nat) : Int) := by rw [IntKind.wrap_u64]; omega
      obtain ⟨r, hr⟩ : ∃ r, (q + 1) % 18446744073709551616 = r := ⟨_, rfl⟩
      rw [hr] at hwr HU
      have h2k : ((2 + k : Nat) : Int) = 2 + (k : Int) := by omega
      have H2K := Lib.hid h2k
      obtain ⟨p, hp⟩ : ∃ p : Nat, 2 + k = p := ⟨_, rfl⟩
      rw [hp] at HC ⊢
      have HP := Lib.hid hp
      have hpn : (p : Int) < 2 + (n : Int) := by omega
      clear hc hu hr h2k hp
      go_upto_region 4 with fail
      go_wp2_with (first | (refine wpList_load_mid rfl 37 (.tmp 3) rfl w.heap.size 0 rfl (rcs d vo vw).toList _ (Box.range' (L := (rcs d vo vw).toList) B0r.out) Tryz.underlying37 rfl infoRef ?_) | fail)
      refine (HC.out).mono ?_
      rintro e w2 ⟨rfl, hk2⟩
      have K2 := Lib.hid (Kr.out.trans hk2)
      clear hk2
      go_upto_region 5 with (first | (refine wpList_store_box rfl 102 (.tmp 8) (.tmp 21) rfl w2.heap.size [.int .u64 q, .bool bl, .string st] rfl rfl (Box.new w2 _ _) rfl info_rsheet (shc_one _ _ _) ?_; intro w3 hb3 hk3) | fail)
      have K3 := Lib.hid (K2.out.trans (((Kp.refl (fun _ => False) w2).alloc _).trans_new hk3 (fun b e => .inl (by omega))))
      have c0 := hb3.cell 0
      simp at c0
      clear hb3 hk3
      rcases b with _ | _
      · go_wp2_with fail
        go_roundw
        case rel => exact ⟨k + 1, by omega, by have := HP.out; congr 1; omega, by rw [HF.out, HU.out]; simp, K3.out⟩
        case measure => have := HP.out; simp [intOf]; omega
      · by_cases hmr : m < r
        · have hd : decide ((m : Int) < (r : Int)) = true := by simp; omega
          have hd2 : decide (m < r) = true := by simpa using hmr
          have HMR := Lib.hid hmr
          clear hmr
          go_wp2_with fail
          go_roundw
          case rel => exact ⟨k + 1, by omega, by have := HP.out; congr 1; omega, by rw [HF.out, HU.out, if_pos ⟨rfl, HMR.out⟩], K3.out⟩
          case measure => have := HP.out; simp [intOf]; omega
        · have hd : decide ((m : Int) < (r : Int)) = false := by simp; omega
          have hd2 : decide (m < r) = false := by simpa using hmr
          have HMR := Lib.hid hmr
          clear hmr
          go_wp2_with fail
          go_roundw
          case rel => exact ⟨k + 1, by omega, by have := HP.out; congr 1; omega, by rw [HF.out, HU.out, if_neg (fun h => HMR.out h.2)], K3.out⟩
          case measure => have := HP.out; simp [intOf]; omega
    · obtain rfl : k = n := by omega
      go_wp2_with fail
      go_ret
      exact ⟨by rw [HM.out]; rfl, KW.out.trans Kr.out⟩
end Go.Proofs.YtfcljcikajaedaaGreatDoor
