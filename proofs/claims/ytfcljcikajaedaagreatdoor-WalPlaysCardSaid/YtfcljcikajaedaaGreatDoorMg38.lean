/- Open in the document's own words. Conditions: the disk's own; a head's first number is small. -/
import Derived.Test.YtfcljcikajaedaaGreatDoorMg3
import Derived.Test.YtfcljcikajaedaaGreatDoorMg34
import Derived.Test.YtfcljcikajaedaaGreatDoorMg37
namespace Go.Proofs.YtfcljcikajaedaaGreatDoor
open Go.RowKit Go.Maps

theorem info_rlog : (Tryz.prog.info? 42).map (·.size) = some 8 := by kernel_rfl
theorem mcs_one (l : Lm) (u : Int) : ∀ v ∈ mcs l u, v.oneCell' = true := fun v hv => by
  simp only [mcs, List.mem_cons, List.not_mem_nil, or_false] at hv
  rcases hv with rfl | rfl | rfl | rfl | rfl | rfl | rfl | rfl <;> rfl
theorem own_ge {w : World} {base : Nat} {e : TypeId} {size n k : Nat} {v : Value} {xs : List Value} (h : w.ownsRow base e size v n xs) (hk : v.ownBlock = some k) : base ≤ k := by
  rcases h.2 with h2 | ⟨g, cap, cur, hv, hg, r⟩
  · rw [h2.1] at hk; cases hk
  · rw [hv] at hk
    simp [Value.ownBlock] at hk
    omega
/-- The head that an opened log stands on. -/
def Dm.ropen (d : Dm) : Option (Hd × Nat) := match d.rheads with
  | some (h, a) => if 1 ≤ h.n ∧ 2 + h.n ≤ d.on.length then some (h, a) else none
  | none => none
set_option maxRecDepth 100000 in
set_option maxHeartbeats 8000000 in
theorem ropen_dead {w : World} {vo vw : Value} {d : Dm} (h0 : Rf w vo vw d) (ok : d.ok) (hpw : d.power = false) :
    Calls Tryz.prog 55 #[.agg (rcs d vo vw)] w fun e w' => e = .returned (.tuple #[.agg (mcs ⟨⟨0, 0, 0, []⟩, 0, 0, 0, false⟩ 0).toArray, .slice none 0 0, .int .i64 4]) ∧ Kp (fun _ => False) w w' := by
  have Hr : Hid (Tryz.f55.results = #[.cell 2 42, .tmp 3, .tmp 4]) := Lib.hid (by kernel_rfl)
  have hfew := ok.few
  obtain ⟨Ao, co, hvo⟩ : ∃ Ao co, vo = .slice Ao d.on.length co := by
    obtain ⟨_, Ao, co, hvo, _⟩ := h0.on
    exact ⟨Ao, co, hvo⟩
  obtain ⟨W, hW, hb0, hb1, hkw⟩ : ∃ W, W = (w.alloc (.cells (rcs d vo vw) 37)).alloc (.cells #[.int .u64 0, .int .u64 0, .int .i64 0, .string ⟨#[]⟩, .int .i64 0, .int .u64 0, .int .i64 0, .bool false] 42) ∧ Box W w.heap.size 37 (rcs d vo vw) ∧ Box W (w.heap.size + 1) 42 #[.int .u64 0, .int .u64 0, .int .i64 0, .string ⟨#[]⟩, .int .i64 0, .int .u64 0, .int .i64 0, .bool false] ∧ Kp (fun _ => False) w W := by
    refine ⟨_, rfl, (Box.new w _ _).alloc _, ?_, ((Kp.refl _ w).alloc _).alloc _⟩
    have := Box.new (w.alloc (.cells (rcs d vo vw) 37)) 42 #[.int .u64 0, .int .u64 0, .int .i64 0, .string ⟨#[]⟩, .int .i64 0, .int .u64 0, .int .i64 0, .bool false]
    rwa [World.size_alloc] at this
  have HVO := Lib.hid hvo
  have HW := Lib.hid hW
  have B0 := Lib.hid hb0
  have B1 := Lib.hid hb1
  have KW := Lib.hid hkw
  have H0 := Lib.hid (h0.still hkw)
  have OK := Lib.hid ok
  have HWS := Lib.hid (show W.heap.size = w.heap.size + 2 by rw [hW]; simp)
  have y2 : W.cell? ⟨w.heap.size, 2, none⟩ = some (.bool (!d.power)) := B0.out.cell 2
  clear hvo hW hb0 hb1 hkw h0 ok
  rw [hpw, Bool.not_false] at y2
  go_enter Tryz.func55, Tryz.ntmps55
  go_upto_region 1 with fail
  rw [← HW.out]
  go_wp2_with (first | (refine wpList_store_box rfl 42 (.tmp 2) (.tmp 9) rfl (w.heap.size + 1) (mcs ⟨⟨0, 0, 0, []⟩, 0, 0, 0, false⟩ 0) rfl rfl B1.out rfl info_rlog (mcs_one _ _) ?_; intro w5 hb5 hk5) | fail)
  refine bodyPost_ret (v := .tuple #[.agg (mcs ⟨⟨0, 0, 0, []⟩, 0, 0, 0, false⟩ 0).toArray, .slice none 0 0, .int .i64 4]) ?_ rfl ⟨rfl, KW.out.trans_new hk5 (fun k e => .inl (by omega))⟩
  exact results_three Hr.out _ _ (w.heap.size + 1) 42 _ (0, 0) _ rfl hb5 Tryz.underlying42 rfl info_rlog
set_option maxRecDepth 100000 in
set_option maxHeartbeats 8000000 in
theorem ropen_none {w : World} {vo vw : Value} {d : Dm} (h0 : Rf w vo vw d) (ok : d.ok) (h2 : 2 ≤ d.on.length) (hpw : d.power = true) (hn : d.ropen = none) (hs : ∀ h a, d.rheads = some (h, a) → h.n < 65536) :
    Calls Tryz.prog 55 #[.agg (rcs d vo vw)] w fun e w' => e = .returned (.tuple #[.agg (mcs ⟨⟨0, 0, 0, []⟩, 0, 0, 0, false⟩ 0).toArray, .slice none 0 0, .int .i64 12]) ∧ Kp (fun _ => False) w w' := by
  have Hr : Hid (Tryz.f55.results = #[.cell 2 42, .tmp 3, .tmp 4]) := Lib.hid (by kernel_rfl)
  have hfew := ok.few
  obtain ⟨Ao, co, hvo⟩ : ∃ Ao co, vo = .slice Ao d.on.length co := by
    obtain ⟨_, Ao, co, hvo, _⟩ := h0.on
    exact ⟨Ao, co, hvo⟩
  obtain ⟨W, hW, hb0, hb1, hkw⟩ : ∃ W, W = (w.alloc (.cells (rcs d vo vw) 37)).alloc (.cells #[.int .u64 0, .int .u64 0, .int .i64 0, .string ⟨#[]⟩, .int .i64 0, .int .u64 0, .int .i64 0, .bool false] 42) ∧ Box W w.heap.size 37 (rcs d vo vw) ∧ Box W (w.heap.size + 1) 42 #[.int .u64 0, .int .u64 0, .int .i64 0, .string ⟨#[]⟩, .int .i64 0, .int .u64 0, .int .i64 0, .bool false] ∧ Kp (fun _ => False) w W := by
    refine ⟨_, rfl, (Box.new w _ _).alloc _, ?_, ((Kp.refl _ w).alloc _).alloc _⟩
    have := Box.new (w.alloc (.cells (rcs d vo vw) 37)) 42 #[.int .u64 0, .int .u64 0, .int .i64 0, .string ⟨#[]⟩, .int .i64 0, .int .u64 0, .int .i64 0, .bool false]
    rwa [World.size_alloc] at this
  have HVO := Lib.hid hvo
  have HW := Lib.hid hW
  have B0 := Lib.hid hb0
  have B1 := Lib.hid hb1
  have KW := Lib.hid hkw
  have H0 := Lib.hid (h0.still hkw)
  have OK := Lib.hid ok
  have HWS := Lib.hid (show W.heap.size = w.heap.size + 2 by rw [hW]; simp)
  have y2 : W.cell? ⟨w.heap.size, 2, none⟩ = some (.bool (!d.power)) := B0.out.cell 2
  clear hvo hW hb0 hb1 hkw h0 ok
  rw [hpw, Bool.not_true] at y2
  obtain ⟨x0, a0, hxa⟩ : ∃ x0 a0, cntV d.rheads = (x0, a0) := ⟨_, _, rfl⟩
  have HC : Hid (∀ w : World, Rf w vo vw d → Calls Tryz.prog 57 #[.agg (rcs d vo vw)] w fun e w' => e = .returned (.tuple #[.agg (hcsR x0), .int .i64 a0]) ∧ Kp (fun _ => False) w w') := Lib.hid (fun w hh => by
    have := rcounts_any hh OK.out h2
    rw [show countS (rheadS (d.nowAt 0)) (rheadS (d.nowAt 1)) = d.rheads from rfl, hxa] at this
    exact this)
  have hcase : a0 < 0 ∨ (0 ≤ a0 ∧ x0.n < 1) ∨ (0 ≤ a0 ∧ 1 ≤ x0.n ∧ d.on.length < 2 + x0.n ∧ x0.n < 65536) := by
    unfold Dm.ropen at hn
    rcases hh : d.rheads with _ | ⟨h, a⟩
    · rw [hh] at hxa
      have h7 : (-1 : Int) = a0 := congrArg Prod.snd hxa
      exact .inl (by omega)
    · rw [hh] at hxa hn
      dsimp only at hn
      have e1 := congrArg Prod.fst hxa
      have e2 := congrArg Prod.snd hxa
      have e1' : h = x0 := e1
      have e2' : (a : Int) = a0 := e2
      subst e1'
      have := hs h a hh
      by_cases hc : 1 ≤ h.n ∧ 2 + h.n ≤ d.on.length
      · rw [if_pos hc] at hn; cases hn
      · by_cases h1 : 1 ≤ h.n
        · exact .inr (.inr ⟨by omega, h1, by omega, by omega⟩)
        · exact .inr (.inl ⟨by omega, by omega⟩)
  clear hn hs hxa h2 hpw
  go_enter Tryz.func55, Tryz.ntmps55
  go_upto_region 1 with fail
  rw [← HW.out]
  go_wp2_with (first | (refine wpList_load_mid rfl 37 (.tmp 1) rfl w.heap.size 0 rfl (rcs d vo vw).toList _ (Box.range' (L := (rcs d vo vw).toList) B0.out) Tryz.underlying37 rfl infoRef ?_) | fail)
  refine (HC.out _ H0.out).mono ?_
  rintro e w5 ⟨rfl, kc⟩
  obtain ⟨g8, hg8⟩ : ∃ g8, w5.heap.size = g8 := ⟨_, rfl⟩
  have BN := Lib.hid (show Box (w5.alloc (.cells #[.int .u64 0, .int .u64 0, .int .i64 0, .string ⟨#[]⟩] 40)) g8 40 #[.int .u64 0, .int .u64 0, .int .i64 0, .string ⟨#[]⟩] by rw [← hg8]; exact Box.new w5 40 #[.int .u64 0, .int .u64 0, .int .i64 0, .string ⟨#[]⟩])
  have KC := Lib.hid (kc.alloc (.cells #[.int .u64 0, .int .u64 0, .int .i64 0, .string ⟨#[]⟩] 40))
  have hsz5 := kc.size
  have HGE := Lib.hid (show W.heap.size ≤ g8 by omega)
  have HG8 := Lib.hid hg8
  clear kc hsz5
  go_upto_region 4 with (first | (try rw [HG8.out]); (refine wpList_store_box rfl 40 (.tmp 5) (.tmp 13) rfl g8 (hcsR x0).toList rfl rfl BN.out rfl info_rhead (hd_one _ _ _ _) ?_; intro wx hb8 hk) | fail)
  have hk8 := KC.out.trans_new hk (fun b e => .inl (by have := HGE.out; omega))
  have HG1 := Lib.hid (show ¬ g8 = (w.heap.size + 1) by have := HWS.out; have := HGE.out; omega)
  have BX8 := Lib.hid hb8
  have BX0 := Lib.hid (B0.out.kp hk8 (fun e => e))
  have BX1 := Lib.hid (B1.out.kp hk8 (fun e => e))
  have HX0 := Lib.hid (H0.out.still hk8)
  have KX := Lib.hid (KW.out.trans hk8)
  have KWX := Lib.hid hk8
  have DRX := Lib.hid ((Kp.refl (fun _ => False) wx).drew)
  have y8 : wx.cell? ⟨g8, 2, none⟩ = some (.int .i64 x0.n) := hb8.cell 2
  have yx : wx.cell? ⟨w.heap.size, 0, none⟩ = some (.slice Ao d.on.length co) := by rw [← HVO.out]; exact BX0.out.cell 0
  clear hb8 hk8 hk hg8
  rcases hcase with c | ⟨c, c'⟩ | ⟨c, c', c2, c3⟩
  · have d0 : decide (a0 < 0) = true := by simp; omega
    go_wp2_with (first | (refine wpList_store_box rfl 42 (.tmp 2) (.tmp 31) rfl (w.heap.size + 1) (mcs ⟨⟨0, 0, 0, []⟩, 0, 0, 0, false⟩ 0) rfl rfl BX1.out rfl info_rlog (mcs_one _ _) ?_; intro w5 hb5 hk5) | fail)
    refine bodyPost_ret (v := .tuple #[.agg (mcs ⟨⟨0, 0, 0, []⟩, 0, 0, 0, false⟩ 0).toArray, .slice none 0 0, .int .i64 12]) ?_ rfl ⟨rfl, KX.out.trans_new hk5 (fun k e => .inl (by omega))⟩
    exact results_three Hr.out _ _ (w.heap.size + 1) 42 _ (0, 0) _ rfl hb5 Tryz.underlying42 rfl info_rlog
  · have d0 : decide (a0 < 0) = false := by simp; omega
    have d1 : decide ((x0.n : Int) < 1) = true := by simp; omega
    go_wp2_with (first | (refine wpList_store_box rfl 42 (.tmp 2) (.tmp 31) rfl (w.heap.size + 1) (mcs ⟨⟨0, 0, 0, []⟩, 0, 0, 0, false⟩ 0) rfl rfl BX1.out rfl info_rlog (mcs_one _ _) ?_; intro w5 hb5 hk5) | fail)
    refine bodyPost_ret (v := .tuple #[.agg (mcs ⟨⟨0, 0, 0, []⟩, 0, 0, 0, false⟩ 0).toArray, .slice none 0 0, .int .i64 12]) ?_ rfl ⟨rfl, KX.out.trans_new hk5 (fun k e => .inl (by omega))⟩
    exact results_three Hr.out _ _ (w.heap.size + 1) 42 _ (0, 0) _ rfl hb5 Tryz.underlying42 rfl info_rlog
  · have d0 : decide (a0 < 0) = false := by simp; omega
    have d1 : decide ((x0.n : Int) < 1) = false := by simp; omega
    have cw : IntKind.i64.wrap (2 + (x0.n : Int)) = 2 + (x0.n : Int) := IntWalk.i64_in _ (by omega)
    have d2 : decide ((d.on.length : Int) < 2 + (x0.n : Int)) = true := by simp; omega
    go_wp2_with (first | (refine wpList_store_box rfl 42 (.tmp 2) (.tmp 31) rfl (w.heap.size + 1) (mcs ⟨⟨0, 0, 0, []⟩, 0, 0, 0, false⟩ 0) rfl rfl BX1.out rfl info_rlog (mcs_one _ _) ?_; intro w5 hb5 hk5) | fail)
    refine bodyPost_ret (v := .tuple #[.agg (mcs ⟨⟨0, 0, 0, []⟩, 0, 0, 0, false⟩ 0).toArray, .slice none 0 0, .int .i64 12]) ?_ rfl ⟨rfl, KX.out.trans_new hk5 (fun k e => .inl (by omega))⟩
    exact results_three Hr.out _ _ (w.heap.size + 1) 42 _ (0, 0) _ rfl hb5 Tryz.underlying42 rfl info_rlog
set_option maxRecDepth 100000 in
set_option maxHeartbeats 8000000 in
theorem ropen_some {w : World} {vo vw : Value} {d : Dm} (h0 : Rf w vo vw d) (ok : d.ok) (hpw : d.power = true) {x0 : Hd} {a : Nat} (hn : d.ropen = some (x0, a)) (hf : x0.f + 65537 < 18446744073709551616) :
    Calls Tryz.prog 55 #[.agg (rcs d vo vw)] w fun e w' => ∃ v, e = .returned (.tuple #[.agg (mcs ⟨x0, a, nextF (fun i => d.nowAt i) x0.n x0.f, 0, false⟩ x0.n).toArray, v, .int .i64 0]) ∧ w'.ownsRow w.heap.size 9 1 v (textsF (fun i => d.nowAt i) x0.n x0.f).length (strs (textsF (fun i => d.nowAt i) x0.n x0.f)) ∧ Kp (fun _ => False) w w' := by
  have Hr : Hid (Tryz.f55.results = #[.cell 2 42, .tmp 3, .tmp 4]) := Lib.hid (by kernel_rfl)
  have hfew := ok.few
  obtain ⟨Ao, co, hvo⟩ : ∃ Ao co, vo = .slice Ao d.on.length co := by
    obtain ⟨_, Ao, co, hvo, _⟩ := h0.on
    exact ⟨Ao, co, hvo⟩
  obtain ⟨W, hW, hb0, hb1, hkw⟩ : ∃ W, W = (w.alloc (.cells (rcs d vo vw) 37)).alloc (.cells #[.int .u64 0, .int .u64 0, .int .i64 0, .string ⟨#[]⟩, .int .i64 0, .int .u64 0, .int .i64 0, .bool false] 42) ∧ Box W w.heap.size 37 (rcs d vo vw) ∧ Box W (w.heap.size + 1) 42 #[.int .u64 0, .int .u64 0, .int .i64 0, .string ⟨#[]⟩, .int .i64 0, .int .u64 0, .int .i64 0, .bool false] ∧ Kp (fun _ => False) w W := by
    refine ⟨_, rfl, (Box.new w _ _).alloc _, ?_, ((Kp.refl _ w).alloc _).alloc _⟩
    have := Box.new (w.alloc (.cells (rcs d vo vw) 37)) 42 #[.int .u64 0, .int .u64 0, .int .i64 0, .string ⟨#[]⟩, .int .i64 0, .int .u64 0, .int .i64 0, .bool false]
    rwa [World.size_alloc] at this
  have HVO := Lib.hid hvo
  have HW := Lib.hid hW
  have B0 := Lib.hid hb0
  have B1 := Lib.hid hb1
  have KW := Lib.hid hkw
  have H0 := Lib.hid (h0.still hkw)
  have OK := Lib.hid ok
  have HWS := Lib.hid (show W.heap.size = w.heap.size + 2 by rw [hW]; simp)
  have y2 : W.cell? ⟨w.heap.size, 2, none⟩ = some (.bool (!d.power)) := B0.out.cell 2
  clear hvo hW hb0 hb1 hkw h0 ok
  rw [hpw, Bool.not_true] at y2
  obtain ⟨hxa', h1, hnl⟩ : d.rheads = some (x0, a) ∧ 1 ≤ x0.n ∧ 2 + x0.n ≤ d.on.length := by
    unfold Dm.ropen at hn
    rcases hh : d.rheads with _ | ⟨h, a'⟩
    · rw [hh] at hn; cases hn
    · rw [hh] at hn
      dsimp only at hn
      by_cases hc : 1 ≤ h.n ∧ 2 + h.n ≤ d.on.length
      · rw [if_pos hc] at hn
        injection hn with hn
        injection hn with e1 e2
        subst e1; subst e2
        exact ⟨rfl, hc.1, hc.2⟩
      · rw [if_neg hc] at hn; cases hn
  obtain ⟨a0, ha0⟩ : ∃ a0 : Int, (a : Int) = a0 := ⟨_, rfl⟩
  have hxa : cntV d.rheads = (x0, a0) := by rw [hxa', ← ha0]; rfl
  have h2 : 2 ≤ d.on.length := by omega
  have HC : Hid (∀ w : World, Rf w vo vw d → Calls Tryz.prog 57 #[.agg (rcs d vo vw)] w fun e w' => e = .returned (.tuple #[.agg (hcsR x0), .int .i64 a0]) ∧ Kp (fun _ => False) w w') := Lib.hid (fun w hh => by
    have := rcounts_any hh OK.out h2
    rw [show countS (rheadS (d.nowAt 0)) (rheadS (d.nowAt 1)) = d.rheads from rfl, hxa] at this
    exact this)
  subst ha0
  obtain ⟨r, hr⟩ : ∃ r, nextF (fun i => d.nowAt i) x0.n x0.f = r := ⟨_, rfl⟩
  obtain ⟨ts, hts⟩ : ∃ ts, textsF (fun i => d.nowAt i) x0.n x0.f = ts := ⟨_, rfl⟩
  have HNX : Hid (∀ w : World, Rf w vo vw d → Calls Tryz.prog 60 #[.agg (rcs d vo vw), .int .i64 x0.n, .int .u64 x0.f] w fun e w' => e = .returned (.int .u64 r) ∧ Kp (fun _ => False) w w') := Lib.hid (fun w hh => by
    have := rnext_any hh OK.out x0.n x0.f h1 (by omega) hnl (by omega)
    rw [hr] at this
    exact this)
  have HTX : Hid (∀ w : World, Rf w vo vw d → Calls Tryz.prog 83 #[.agg (rcs d vo vw), .agg (hcsR x0)] w fun e w' => ∃ v, e = .returned v ∧ w'.ownsRow w.heap.size 9 1 v ts.length (strs ts) ∧ Kp (fun _ => False) w w') := Lib.hid (fun w hh => by
    have := rtexts_any hh OK.out x0 h1 (by omega) hnl hf
    rw [hts] at this
    exact this)
  rw [hr, hts]
  have d0 : decide ((a : Int) < 0) = false := decide_eq_false (by omega)
  have d1 : decide ((x0.n : Int) < 1) = false := by simp; omega
  have cw : IntKind.i64.wrap (2 + (x0.n : Int)) = 2 + (x0.n : Int) := IntWalk.i64_in _ (by omega)
  have d2 : decide ((d.on.length : Int) < 2 + (x0.n : Int)) = false := by simp; omega
  clear hn hxa hxa' hr hts h2 hpw hf
  go_enter Tryz.func55, Tryz.ntmps55
  go_upto_region 1 with fail
  rw [← HW.out]
  go_wp2_with (first | (refine wpList_load_mid rfl 37 (.tmp 1) rfl w.heap.size 0 rfl (rcs d vo vw).toList _ (Box.range' (L := (rcs d vo vw).toList) B0.out) Tryz.underlying37 rfl infoRef ?_) | fail)
  refine (HC.out _ H0.out).mono ?_
  rintro e w5 ⟨rfl, kc⟩
  obtain ⟨g8, hg8⟩ : ∃ g8, w5.heap.size = g8 := ⟨_, rfl⟩
  have BN := Lib.hid (show Box (w5.alloc (.cells #[.int .u64 0, .int .u64 0, .int .i64 0, .string ⟨#[]⟩] 40)) g8 40 #[.int .u64 0, .int .u64 0, .int .i64 0, .string ⟨#[]⟩] by rw [← hg8]; exact Box.new w5 40 #[.int .u64 0, .int .u64 0, .int .i64 0, .string ⟨#[]⟩])
  have KC := Lib.hid (kc.alloc (.cells #[.int .u64 0, .int .u64 0, .int .i64 0, .string ⟨#[]⟩] 40))
  have hsz5 := kc.size
  have HGE := Lib.hid (show W.heap.size ≤ g8 by omega)
  have HG8 := Lib.hid hg8
  clear kc hsz5
  go_upto_region 4 with (first | (try rw [HG8.out]); (refine wpList_store_box rfl 40 (.tmp 5) (.tmp 13) rfl g8 (hcsR x0).toList rfl rfl BN.out rfl info_rhead (hd_one _ _ _ _) ?_; intro wx hb8 hk) | fail)
  have hk8 := KC.out.trans_new hk (fun b e => .inl (by have := HGE.out; omega))
  have HG1 := Lib.hid (show ¬ g8 = (w.heap.size + 1) by have := HWS.out; have := HGE.out; omega)
  have BX8 := Lib.hid hb8
  have BX0 := Lib.hid (B0.out.kp hk8 (fun e => e))
  have BX1 := Lib.hid (B1.out.kp hk8 (fun e => e))
  have HX0 := Lib.hid (H0.out.still hk8)
  have KX := Lib.hid (KW.out.trans hk8)
  have KWX := Lib.hid hk8
  have DRX := Lib.hid ((Kp.refl (fun _ => False) wx).drew)
  have y8 : wx.cell? ⟨g8, 2, none⟩ = some (.int .i64 x0.n) := hb8.cell 2
  have yx : wx.cell? ⟨w.heap.size, 0, none⟩ = some (.slice Ao d.on.length co) := by rw [← HVO.out]; exact BX0.out.cell 0
  clear hb8 hk8 hk hg8
  go_upto_region 6 with fail
  refine wp_region_held_drew (S := fun v => Kp (fun k => k = (w.heap.size + 1)) wx v) (by kernel_rfl) (DRX.out.of_false) (fun hHeld => ?_)
  refine wpAnyH_take (i := 0) (oi := { dst := some 32, op := Op.load 40 (Operand.tmp 5), type := 40, pos := "ref.go:144", after := #[], guard := none }) (v := _) rfl (by kernel_rfl) (by kernel_rfl) (by kernel_rfl) (fun _ _ _ h => h) (yieldsIf_load_mid (by rfl) _ _ rfl g8 0 rfl (hcsR x0).toList _ (fun v hv => Box.range' (L := (hcsR x0).toList) (BX8.out.kp hv (fun e => HG1.out e))) Tryz.underlying40 rfl info_rhead) (by assumption) ?_
  try simp only [Act.put, List.setIfInBounds_toArray, List.set_cons_zero, List.set_cons_succ]
  refine tk 1 (h := ?_)
  refine wpAnyH_take (i := 2) (oi := { dst := some 34, op := Op.load 37 (Operand.tmp 1), type := 37, pos := "ref.go:144", after := #[], guard := none }) (v := _) rfl (by kernel_rfl) (by kernel_rfl) (by kernel_rfl) (fun _ _ _ h => h) (yieldsIf_load_mid (by rfl) _ _ rfl w.heap.size 0 rfl (rcs d vo vw).toList _ (fun v hv => Box.range' (L := (rcs d vo vw).toList) (BX0.out.kp hv (fun e => by omega))) Tryz.underlying37 rfl infoRef) (by assumption) ?_
  try simp only [Act.put, List.setIfInBounds_toArray, List.set_cons_zero, List.set_cons_succ]
  refine tk 3 (h := ?_)
  refine tk 4 (v := ?_) (hy := ?_) (h := ?_)
  rotate_left
  · intro v hSw
    have y : v.cell? ⟨g8, 2, none⟩ = some (.int .i64 x0.n) := (BX8.out.kp hSw (fun e => HG1.out e)).cell 2
    try dsimp only at hSw
    go_simp
    with_reducible rfl
  refine tk 5 (h := ?_)
  refine tk 6 (v := ?_) (hy := ?_) (h := ?_)
  rotate_left
  · intro v hSw
    have y : v.cell? ⟨g8, 1, none⟩ = some (.int .u64 x0.f) := (BX8.out.kp hSw (fun e => HG1.out e)).cell 1
    try dsimp only at hSw
    go_simp
    with_reducible rfl
  refine tk 8 (h := ?_)
  refine tk 9 (v := ?_) (hy := ?_) (h := ?_)
  rotate_left
  · intro v hSw
    have y : v.cell? ⟨g8, 2, none⟩ = some (.int .i64 x0.n) := (BX8.out.kp hSw (fun e => HG1.out e)).cell 2
    try dsimp only at hSw
    go_simp
    with_reducible rfl
  refine wpAnyH_take (i := 11) (oi := { dst := some 43, op := Op.load 37 (Operand.tmp 1), type := 37, pos := "ref.go:144", after := #[], guard := none }) (v := _) rfl (by kernel_rfl) (by kernel_rfl) (by kernel_rfl) (fun _ _ _ h => h) (yieldsIf_load_mid (by rfl) _ _ rfl w.heap.size 0 rfl (rcs d vo vw).toList _ (fun v hv => Box.range' (L := (rcs d vo vw).toList) (BX0.out.kp hv (fun e => by omega))) Tryz.underlying37 rfl infoRef) (by assumption) ?_
  try simp only [Act.put, List.setIfInBounds_toArray, List.set_cons_zero, List.set_cons_succ]
  refine wpAnyH_take (i := 12) (oi := { dst := some 44, op := Op.load 40 (Operand.tmp 5), type := 40, pos := "ref.go:144", after := #[], guard := none }) (v := _) rfl (by kernel_rfl) (by kernel_rfl) (by kernel_rfl) (fun _ _ _ h => h) (yieldsIf_load_mid (by rfl) _ _ rfl g8 0 rfl (hcsR x0).toList _ (fun v hv => Box.range' (L := (hcsR x0).toList) (BX8.out.kp hv (fun e => HG1.out e))) Tryz.underlying40 rfl info_rhead) (by assumption) ?_
  try simp only [Act.put, List.setIfInBounds_toArray, List.set_cons_zero, List.set_cons_succ]
  refine rd 7 (h := fun K hK => ?_)
  go_simp
  refine (HNX.out _ (HX0.out.still DRX.out)).mono ?_
  rintro e w6 ⟨rfl, k6⟩
  go_wp2_with fail
  refine hK.out _ _ ((DRX.out.trans k6).of_false) (fun hHeld19 => ?_)
  clear hK K
  try simp only [Act.put, List.setIfInBounds_toArray, List.set_cons_zero, List.set_cons_succ]
  refine tk 10 (v := ?_) (hy := ?_) (h := ?_)
  rotate_left
  · intro v hSw
    try dsimp only at hSw
    simp only [hcsR]
    go_simp
    with_reducible rfl
  refine rd 13 (h := fun K hK => ?_)
  go_simp
  refine (HTX.out _ (HX0.out.still (DRX.out.trans k6))).mono ?_
  rintro e w7 ⟨v7, rfl, r7, k7⟩
  have S7 := Lib.hid ((DRX.out.trans k6).trans k7)
  have K7 := Lib.hid (KX.out.trans S7.out)
  have BR7 := Lib.hid (BX1.out.kp S7.out (fun e => e))
  have R7 := Lib.hid (ownsRow_from r7 (show w.heap.size ≤ w6.heap.size from ((KX.out.trans DRX.out).trans k6).size))
  have OFF7 := Lib.hid (show ∀ k, v7.ownBlock = some k → k ≠ (w.heap.size + 1) from fun k hk e => by
    have h1 := own_ge r7 hk
    have h2 := (DRX.out.trans k6).size
    have h3 := KWX.out.size
    have h4 := HWS.out
    omega)
  clear r7 k7
  go_wp2_with fail
  refine hK.out _ _ (S7.out.of_false) (fun hHeld20 => ?_)
  clear hK K
  try simp only [Act.put, List.setIfInBounds_toArray, List.set_cons_zero, List.set_cons_succ]
  refine rd 14 (h := fun K hK => ?_)
  rw [if_pos (by rfl)]
  refine wp_store_box 42 (.tmp 2) (.tmp 42) rfl (w.heap.size + 1) (mcs ⟨x0, a, r, 0, false⟩ x0.n) rfl rfl BR7.out rfl info_rlog (mcs_one _ _) ?_
  intro w8 hb5 hk5
  refine hK.out _ _ (S7.out.of_false.trans hk5) (fun hHeld21 => ?_)
  clear hK K
  try simp only [Act.put]
  refine tk 15 (h := ?_)
  refine tk 16 (h := ?_)
  refine wpAnyH_done (by kernel_rfl) ?_ _
  go_wp2_with fail
  refine bodyPost_ret (v := .tuple #[.agg (mcs ⟨x0, a, r, 0, false⟩ x0.n).toArray, v7, .int .i64 0]) ?_ rfl ⟨v7, rfl, down_kp R7.out hk5 (fun k e h => OFF7.out k e h), K7.out.trans_new hk5 (fun k e => .inl (by omega))⟩
  exact results_three Hr.out _ _ (w.heap.size + 1) 42 _ (0, 0) _ rfl hb5 Tryz.underlying42 rfl info_rlog
end Go.Proofs.YtfcljcikajaedaaGreatDoor

/- Trim in the document's own words. Conditions: the disk's own; the log's own. -/
namespace Go.Proofs.YtfcljcikajaedaaGreatDoor
open Go.RowKit Go.Maps

theorem results_cct {P : Program} {fn : Func} {p q u : Tmp} {ty ty' : TypeId} (h : fn.results = #[.cell p ty, .cell q ty', .tmp u]) (tmps : Array Value) (w : World) (g : Nat) (t : TypeId) (cs : Array Value) (fr : Nat × Nat) (d : TypeDesc) (g' : Nat) (t' : TypeId) (cs' : Array Value) (fr' : Nat × Nat) (d' : TypeDesc)
    (hp : tmps.getD p undef = .pointer (some ⟨g, 0, none⟩)) (hg : w.heap[g]? = some (.cells cs t fr))
    (hu : P.underlying ty = some d) (hd : (match d with | .struct _ | .array _ _ => true | _ => false) = true) (hi : (P.info? ty).map (·.size) = some cs.size)
    (hp' : tmps.getD q undef = .pointer (some ⟨g', 0, none⟩)) (hg' : w.heap[g']? = some (.cells cs' t' fr'))
    (hu' : P.underlying ty' = some d') (hd' : (match d' with | .struct _ | .array _ _ => true | _ => false) = true) (hi' : (P.info? ty').map (·.size) = some cs'.size) :
    (results fn tmps).run P w = .ok (.tuple #[.agg cs, .agg cs', tmps.getD u undef]) w := by
  have hq : tmps[p]?.getD undef = .pointer (some ⟨g, 0, none⟩) := by simpa using hp
  have hq' : tmps[q]?.getD undef = .pointer (some ⟨g', 0, none⟩) := by simpa using hp'
  simp [results, h, hq, hq', asAddr, run_loadVar_row w g t ty cs fr d hg hu hd hi, run_loadVar_row w g' t' ty' cs' fr' d' hg' hu' hd' hi', Result.andThen]
theorem wpList_store_head {ops : Array Oper} {rest : List Oper} {op : Oper} {a : Act} {w : World} {Q : Exit → Act → World → Prop} (hgd : op.guard = none) (x y : Operand) (ho : op.op = .store 40 x y)
    (g : Nat) (h : Hd) (l : Lm) (u : Int) (hx : a.eval x = .pointer (some ⟨g, 0, none⟩)) (hy : a.eval y = .agg (hcsR h)) (hb : Box w g 42 (mcs l u).toArray)
    (k : ∀ W, Box W g 42 (mcs { l with h := h } u).toArray → Kp (fun k => k = g) w W → wpList Tryz.prog ops Q rest (a.put op.dst undef) W) : wpList Tryz.prog ops Q (op :: rest) a w := by
  refine wpList_store_mid hgd 40 x y ho g 0 (hcsR h) hx hy (fun j hj => hb.there j (Nat.lt_of_lt_of_le hj (show 4 ≤ 8 by decide))) info_rhead (all_oneCell_toArray (hd_one _ _ _ _)) ?_
  refine k _ ?_ (Kp.setCells _ 0 w (Kp.refl _ w) (.inr rfl))
  exact (((hb.put 0 _).put 1 _).put 2 _).put 3 _
set_option maxRecDepth 100000 in
set_option maxHeartbeats 8000000 in
theorem rtrim_dead {w : World} {vo vw : Value} {d : Dm} (h0 : Rf w vo vw d) (l : Lm) (u : Int) (hl : l.dead = true) :
    Calls Tryz.prog 54 #[.agg (mcs l u).toArray, .agg (rcs d vo vw)] w fun e w' => ∃ vo' vw', e = .returned (.tuple #[.agg (mcs l u).toArray, .agg (rcs d vo' vw'), .int .i64 4]) ∧ Rf w' vo' vw' d ∧ Kp (fun _ => False) w w' := by
  have Hr : Hid (Tryz.f54.results = #[.cell 4 42, .cell 5 37, .tmp 6]) := Lib.hid (by kernel_rfl)
  obtain ⟨W, hW, hb0, hb1, hb2, hb3, hkw⟩ : ∃ W, W = (((w.alloc (.cells (mcs l u).toArray 42)).alloc (.cells (rcs d vo vw) 37)).alloc (.cells #[.int .u64 0, .int .u64 0, .int .i64 0, .string ⟨#[]⟩, .int .i64 0, .int .u64 0, .int .i64 0, .bool false] 42)).alloc (.cells #[.slice none 0 0, .slice none 0 0, .bool false, .int .i64 0, .string ⟨#[]⟩, .int .u64 0] 37) ∧ Box W w.heap.size 42 (mcs l u).toArray ∧ Box W (w.heap.size + 1) 37 (rcs d vo vw) ∧ Box W (w.heap.size + 1 + 1) 42 #[.int .u64 0, .int .u64 0, .int .i64 0, .string ⟨#[]⟩, .int .i64 0, .int .u64 0, .int .i64 0, .bool false] ∧ Box W (w.heap.size + 1 + 1 + 1) 37 #[.slice none 0 0, .slice none 0 0, .bool false, .int .i64 0, .string ⟨#[]⟩, .int .u64 0] ∧ Kp (fun _ => False) w W := by
    refine ⟨_, rfl, (((Box.new w _ _).alloc _).alloc _).alloc _, ?_, ?_, ?_, ((((Kp.refl _ w).alloc _).alloc _).alloc _).alloc _⟩
    · have := Box.new (w.alloc (.cells (mcs l u).toArray 42)) 37 (rcs d vo vw)
      rw [World.size_alloc] at this
      exact (this.alloc _).alloc _
    · have := Box.new ((w.alloc (.cells (mcs l u).toArray 42)).alloc (.cells (rcs d vo vw) 37)) 42 #[.int .u64 0, .int .u64 0, .int .i64 0, .string ⟨#[]⟩, .int .i64 0, .int .u64 0, .int .i64 0, .bool false]
      rw [World.size_alloc, World.size_alloc] at this
      exact this.alloc _
    · have := Box.new (((w.alloc (.cells (mcs l u).toArray 42)).alloc (.cells (rcs d vo vw) 37)).alloc (.cells #[.int .u64 0, .int .u64 0, .int .i64 0, .string ⟨#[]⟩, .int .i64 0, .int .u64 0, .int .i64 0, .bool false] 42)) 37 #[.slice none 0 0, .slice none 0 0, .bool false, .int .i64 0, .string ⟨#[]⟩, .int .u64 0]
      rw [World.size_alloc, World.size_alloc, World.size_alloc] at this
      exact this
  have HW := Lib.hid hW
  have B0 := Lib.hid hb0
  have B1 := Lib.hid hb1
  have KW := Lib.hid hkw
  have H0 := Lib.hid (h0.still hkw)
  have HWS := Lib.hid (show W.heap.size = (w.heap.size + 1 + 1 + 1 + 1) by rw [hW]; simp)
  have y7 : W.cell? ⟨w.heap.size, 7, none⟩ = some (.bool l.dead) := B0.out.cell 7
  have BRL := Lib.hid hb2
  have BRD := Lib.hid hb3
  clear hW hb0 hb1 hb2 hb3 hkw h0
  rw [hl] at y7
  go_enter Tryz.func54, Tryz.ntmps54
  go_upto_region 1 with fail
  rw [← HW.out]
  have DR := Lib.hid ((Kp.refl (fun _ => False) W).drew)
  go_upto_region 2 with fail
  refine wp_region_held_drew (S := fun v => Kp (fun k => k = (w.heap.size + 1 + 1) ∨ k = (w.heap.size + 1 + 1 + 1)) W v) (by kernel_rfl) (DR.out.of_false) (fun hHeld => ?_)
  refine wpAnyH_take (i := 0) (oi := { dst := some 11, op := Op.load 42 (Operand.tmp 2), type := 42, pos := "ref.go:180", after := #[], guard := none }) (v := _) rfl (by kernel_rfl) (by kernel_rfl) (by kernel_rfl) (fun _ _ _ h => h) (yieldsIf_load_mid (by rfl) _ _ rfl w.heap.size 0 rfl ((mcs l u).toArray).toList _ (fun v hv => Box.range' (L := ((mcs l u).toArray).toList) (B0.out.kp hv (fun e => by omega))) Tryz.underlying42 rfl info_rlog) (by assumption) ?_
  try simp only [Act.put, List.setIfInBounds_toArray, List.set_cons_zero, List.set_cons_succ]
  refine wpAnyH_take (i := 1) (oi := { dst := some 12, op := Op.load 37 (Operand.tmp 3), type := 37, pos := "ref.go:180", after := #[{ on := 2, ground := Ground.gcOnly Departure.lateStores }], guard := none }) (v := _) rfl (by kernel_rfl) (by kernel_rfl) (by kernel_rfl) (fun _ _ _ h => h) (yieldsIf_load_mid (by rfl) _ _ rfl (w.heap.size + 1) 0 rfl (rcs d vo vw).toList _ (fun v hv => Box.range' (L := (rcs d vo vw).toList) (B1.out.kp hv (fun e => by omega))) Tryz.underlying37 rfl infoRef) (by assumption) ?_
  try simp only [Act.put, List.setIfInBounds_toArray, List.set_cons_zero, List.set_cons_succ]
  refine rd 2 (h := fun K hK => ?_)
  rw [if_pos (by rfl)]
  refine wp_store_box 42 (.tmp 4) (.tmp 11) rfl (w.heap.size + 1 + 1) (mcs l u) rfl rfl (BRL.out.kp DR.out (fun e => e)) rfl info_rlog (mcs_one _ _) ?_
  intro wl hbL hkL
  have BLX := Lib.hid hbL
  have KLX := Lib.hid hkL
  have BDX := Lib.hid ((BRD.out.kp DR.out (fun e => e)).kp hkL (fun e => by omega))
  have SLX := Lib.hid ((DR.out.of_false).trans (hkL.mono (S' := fun k => k = (w.heap.size + 1 + 1) ∨ k = (w.heap.size + 1 + 1 + 1)) (fun _ _ e => .inl e)))
  clear hbL hkL
  refine hK.out _ _ (SLX.out) (fun hHeld22 => ?_)
  clear hK K
  try simp only [Act.put]
  refine rd 3 (h := fun K hK => ?_)
  rw [if_pos (by rfl)]
  refine dwp_store_box 37 (.tmp 5) (.tmp 12) rfl (w.heap.size + 1 + 1 + 1) (rcs d vo vw).toList rfl rfl BDX.out rfl infoRef (rcs_one _ _ _ (H0.out).c1.1 (H0.out).c1.2) ?_
  intro w5 hb5 hk5
  refine hK.out _ _ (SLX.out.trans (hk5.mono (S' := fun k => k = (w.heap.size + 1 + 1) ∨ k = (w.heap.size + 1 + 1 + 1)) (fun _ _ e => .inr e))) (fun hHeld23 => ?_)
  clear hK K
  try simp only [Act.put]
  refine tk 4 (h := ?_)
  refine wpAnyH_done (by kernel_rfl) ?_ _
  go_wp2_with fail
  have K5 := ((((KW.out).trans DR.out)).trans_new KLX.out (fun k e => .inl (by omega))).trans_new hk5 (fun k e => .inl (by omega))
  have R5 := Rf.store (Rf.kp (Rf.still (H0.out) DR.out) KLX.out (fun q cs fr e1 e2 => by
      rcases e1 with e1 | e1
      · exact type_off e1 (BRL.out.kp DR.out (fun e => e)) (by decide) e2
      · exact type_off e1 (BRL.out.kp DR.out (fun e => e)) (by decide) e2)) BDX.out hk5
  refine bodyPost_ret (v := .tuple #[.agg (mcs l u).toArray, .agg (rcs d vo vw), .int .i64 4]) ?_ rfl ⟨vo, vw, rfl, R5, K5⟩
  exact results_cct Hr.out _ _ (w.heap.size + 1 + 1) 42 _ (0, 0) _ (w.heap.size + 1 + 1 + 1) 37 _ (0, 0) _ rfl (BLX.out.kp hk5 (fun e => by omega)) Tryz.underlying42 rfl info_rlog rfl hb5 Tryz.underlying37 rfl infoRef
end Go.Proofs.YtfcljcikajaedaaGreatDoor
