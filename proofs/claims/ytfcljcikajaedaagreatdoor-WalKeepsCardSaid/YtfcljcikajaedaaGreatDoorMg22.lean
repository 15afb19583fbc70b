/- The document's own disk: a write reaches it, told as a step; the power goes. Conditions: the disk's own. -/
import Derived.Test.YtfcljcikajaedaaGreatDoorMg21
namespace Go.Proofs.YtfcljcikajaedaaGreatDoor
open Go.RowKit Go.Maps

theorem dwp_store_box {P : Program} {op : Oper} {a : Act} {w : World} {K : Act → World → Prop} {Q : Exit → Act → World → Prop} (ty : TypeId) (x y : Operand) (ho : op.op = .store ty x y)
    (g : Nat) (cs : List Value) (hx : a.eval x = .pointer (some ⟨g, 0, none⟩)) (hy : a.eval y = .agg cs.toArray) {t : TypeId} {old : Array Value} (hb : Box w g t old) (hs : old.size = cs.length)
    (hi : (P.info? ty).map (·.size) = some cs.length) (h1 : ∀ v ∈ cs, v.oneCell' = true)
    (h : ∀ W, Box W g t cs.toArray → Kp (fun k => k = g) w W → K (a.put op.dst undef) W) : op.wp P a w K Q := by
  have hb' : Box w g t old.toList.toArray := hb
  refine wp_store_mid ty x y ho g 0 cs.toArray hx hy ?_ (by simpa using hi) (all_oneCell_toArray h1) ?_
  · have := hb'.there
    simp only [List.size_toArray, Array.length_toList] at this ⊢
    rw [← hs]
    exact this
  · refine h _ ?_ (Kp.setCells _ 0 w (Kp.refl _ w) (.inr rfl))
    exact hb'.write (by simpa using hs.symm)
theorem type_off {w : World} {k g : Nat} {t t' : TypeId} {cs cs' : Array Value} {fr : Nat × Nat} (h : w.heap[k]? = some (.cells cs t fr)) (hb : Box w g t' cs') (hne : t ≠ t') : k ≠ g := by
  rintro rfl
  unfold Box at hb
  rw [h] at hb
  injection hb with hb
  injection hb with _ ht
  exact hne ht
theorem Rf.drew {w : World} {vo vw : Value} {d : Dm} (h : Rf w vo vw d) : Rf w.drew vo vw d := h.still ((Kp.refl _ w).drew)
theorem Rf.c1 {w : World} {vo vw : Value} {d : Dm} (h : Rf w vo vw d) : vo.oneCell' = true ∧ vw.oneCell' = true := by
  obtain ⟨_, A, cap, hv, _⟩ := h.wt
  obtain ⟨_, A', cap', hv', _⟩ := h.on
  rw [hv, hv']
  exact ⟨rfl, rfl⟩
/-- The disk while k writes are settled. -/
def Dm.upto (d : Dm) (f : Nat → Bool) (k : Nat) : Dm := { d with on := settleL f d.on (d.wait.take k) }
theorem upto_zero (d : Dm) (f : Nat → Bool) : d.upto f 0 = d := by simp [Dm.upto, settleL_nil]
theorem upto_next (d : Dm) (f : Nat → Bool) (k : Nat) (x : Nat × List UInt8) (hx : d.wait[k]? = some x) : d.upto f (k + 1) = if f k then { d.upto f k with on := (d.upto f k).on.set x.1 x.2 } else d.upto f k := by
  have hsnoc : d.wait.take (k + 1) = d.wait.take k ++ [x] := by rw [List.take_add_one, hx]; rfl
  have hlk : (d.wait.take k).length = k := by
    have := (List.getElem?_eq_some_iff.1 hx).1
    simp; omega
  have hset := settleL_snoc f d.on (d.wait.take k) x
  rw [← hsnoc, hlk] at hset
  unfold Dm.upto
  rw [hset]
  split <;> rfl
/-- A write reaches the disk, as a step. -/
theorem put_upto {w : World} {vo vw : Value} {d : Dm} {f : Nat → Bool} {k : Nat} (h : Rf w vo vw (d.upto f k)) (ok : d.ok) (x : Nat × List UInt8) (hx : d.wait[k]? = some x) (hf : f k = true) :
    Calls Tryz.prog 82 #[.agg (rcs d vo vw), .agg #[.int .i64 x.1, .string ⟨x.2.toArray⟩]] w fun e w' => ∃ vo', e = .returned (.agg (rcs d vo' vw)) ∧ Rf w' vo' vw (d.upto f (k + 1)) ∧ Kp (fun _ => False) w w' := by
  have hl : (d.upto f k).on.length = d.on.length := by simp only [Dm.upto, settleL_length]
  have := put_any h x.1 x.2 (by rw [hl]; exact ok.at_ x (List.mem_of_getElem? hx)) (by rw [hl]; exact ok.few)
  rw [upto_next d f k x hx, if_pos hf]
  exact this
/-- The copied disk, and the result's box. -/
theorem start2 (w : World) (r : Array Value) : ∃ W, W = (w.alloc (.cells r 37)).alloc (.cells #[.slice none 0 0, .slice none 0 0, .bool false, .int .i64 0, .string ⟨#[]⟩, .int .u64 0] 37) ∧ Box W w.heap.size 37 r ∧ Box W (w.heap.size + 1) 37 #[.slice none 0 0, .slice none 0 0, .bool false, .int .i64 0, .string ⟨#[]⟩, .int .u64 0] ∧ Kp (fun _ => False) w W := by
  refine ⟨_, rfl, (Box.new w _ _).alloc _, ?_, ((Kp.refl _ w).alloc _).alloc _⟩
  have := Box.new (w.alloc (.cells r 37)) 37 #[.slice none 0 0, .slice none 0 0, .bool false, .int .i64 0, .string ⟨#[]⟩, .int .u64 0]
  rwa [World.size_alloc] at this
/-- The row of the writes that wait is not the copied disk. -/
theorem Rf.apart {w : World} {vo : Value} {d : Dm} {gw n c : Nat} (h : Rf w vo (.slice (some ⟨gw, 0, none⟩) n c) d) (hn : 0 < d.wait.length) : gw < w.heap.size := by
  obtain ⟨_, _, _, hv1, _, h2⟩ := h.wt
  injection hv1 with e1 _ _
  subst e1
  rcases h2 with h2 | ⟨b, cur, e2, hb, _⟩
  · omega
  · injection e2 with e3
    injection e3 with e4
    exact e4 ▸ hb.lt

set_option maxRecDepth 100000 in
set_option maxHeartbeats 4000000 in
theorem goes_any {w : World} {vo vw : Value} {d : Dm} (h : Rf w vo vw d) (ok : d.ok) (l : List UInt8) (hl : l.length ≤ maxLen) :
    Calls Tryz.prog 56 #[.agg (rcs d vo vw), .string ⟨l.toArray⟩] w fun e w' => ∃ vo', e = .returned (.agg (rcs (d.lose l) vo' (.slice none 0 0))) ∧ Rf w' vo' (.slice none 0 0) (d.lose l) ∧ Kp (fun _ => False) w w' := by
  have Hr : Hid (Tryz.f56.results = #[.cell 4 37]) := Lib.hid (by kernel_rfl)
  obtain ⟨_, Aw, cw, hvw, hcw, _⟩ := h.wt
  have hwl := ok.waits
  have H := Lib.hid h
  have OK := Lib.hid ok
  clear h ok
  subst hvw
  obtain ⟨W, hW, hb0, hb1, hkw⟩ := start2 w (rcs d vo (.slice Aw d.wait.length cw))
  have HW := Lib.hid hW
  have B0 := Lib.hid hb0
  have B1 := Lib.hid hb1
  have KW := Lib.hid hkw
  clear hb0 hb1 hkw hW
  go_enter Tryz.func56, Tryz.ntmps56
  go_upto_region 1 with fail
  rw [← HW.out]
  have y0 : W.cell? ⟨w.heap.size, 1, none⟩ = some (.slice Aw d.wait.length cw) := B0.out.cell 1
  go_wp2_with fail
  clear y0
  go_loopw [6] (fun i wr => ∃ (k : Nat) (vk : Value), k ≤ d.wait.length ∧ i = .int .i64 k ∧ Box wr w.heap.size 37 (rcs d vk (.slice Aw d.wait.length cw)) ∧ Box wr (w.heap.size + 1) 37 #[.slice none 0 0, .slice none 0 0, .bool false, .int .i64 0, .string ⟨#[]⟩, .int .u64 0] ∧ Rf wr vk (.slice Aw d.wait.length cw) (d.upto (bitOf l) k) ∧ Kp (fun _ => False) w wr)
    (fun i _ => d.wait.length - (intOf i).toNat)
  case atStart => exact ⟨0, vo, Nat.zero_le _, rfl, B0.out, B1.out, by rw [upto_zero]; exact H.out.still KW.out, KW.out⟩
  case round =>
    obtain ⟨k, vk, hk, rfl, hb0, hb1, hrf, hkw⟩ := hrel
    have BK := Lib.hid hb0
    have BR := Lib.hid hb1
    have RK := Lib.hid hrf
    have HK := Lib.hid hkw
    clear hb0 hb1 hrf hkw
    by_cases hlt : k < d.wait.length
    · obtain ⟨gw, cw', hvg, _, hcell⟩ := RK.out.wt.cell (show 0 < (d.upto (bitOf l) k).wait.length from Nat.lt_of_le_of_lt (Nat.zero_le k) hlt)
      injection hvg with hA hB0 hC
      clear hB0
      subst hA
      subst hC
      have hgw0 : ¬ gw = w.heap.size := by
        have := H.out.apart (by omega)
        omega
      obtain ⟨x, hx⟩ : ∃ x, d.wait[k]? = some x := ⟨_, List.getElem?_eq_getElem hlt⟩
      obtain ⟨p0, p1⟩ := prs_get d.wait k x hx
      have c0 : wr.cell? ⟨gw, k * 2, none⟩ = some (.int .i64 x.1) := hcell _ _ p0
      have c1 : wr.cell? ⟨gw, k * 2 + 1, none⟩ = some (.string ⟨x.2.toArray⟩) := hcell _ _ p1
      have HX := Lib.hid hx
      clear hx hcell p0 p1
      obtain ⟨q, hqe⟩ : ∃ q, q = k / 8 := ⟨_, rfl⟩
      obtain ⟨r, hre⟩ : ∃ r, r = k % 8 := ⟨_, rfl⟩
      have hb : bitOf l k = (decide (q < l.length) && ((l.getD q 0).toNat / 2 ^ r % 2 == 1)) := by rw [bitOf, ← hqe, ← hre]
      have hq : ((k : Int)).tdiv 8 = (q : Int) := by rw [hqe]; exact (Int.ofNat_tdiv k 8).symm
      have hr : ((k : Int)).tmod 8 = (r : Int) := by rw [hre]; exact (Int.ofNat_tmod k 8).symm
      have hr8 : r < 8 := by omega
      have hq8 : q < 1073741824 := by omega
      have hl2 := hl
      unfold maxLen at hl2
      have HB := Lib.hid hb
      clear hb hqe hre
      by_cases hql : q < l.length
      · have hget : l.getD q 0 = l[q] := by simp [hql]
        rw [decide_eq_true hql, Bool.true_and, hget] at HB
        clear hget
        have hx8 : l[q].toNat < 256 := l[q].toNat_lt
        go_upto_region 8 with fail
        obtain ⟨y, hy, hyb⟩ : ∃ y : Nat, (((⟨l.toArray⟩ : ByteArray)[q]'(by simpa [ByteArray.size] using hql)).toNat / 2 ^ r : Int).tmod 2 = (y : Int) ∧ bitOf l k = (y == 1) := by
          refine ⟨l[q].toNat / 2 ^ r % 2, ?_, HB.out⟩
          show (((l[q].toNat : Int)) / 2 ^ r).tmod 2 = _
          rw [show ((l[q].toNat : Int)) / 2 ^ r = ((l[q].toNat / 2 ^ r : Nat) : Int) by simp]
          exact (Int.ofNat_tmod _ 2).symm
        rw [hy]
        clear hy HB hx8
        have HN := Lib.hid (upto_next d (bitOf l) k x HX.out)
        by_cases hy1 : y = 1
        · subst hy1
          have HF := Lib.hid (show bitOf l k = true from hyb)
          clear hyb HN
          go_upto_region 9 with fail
          refine wp_region_held_drew (S := fun v => v.cell? ⟨gw, k * 2, none⟩ = some (.int .i64 x.1) ∧ v.cell? ⟨gw, k * 2 + 1, none⟩ = some (.string ⟨x.2.toArray⟩)) (by kernel_rfl) ⟨c0, c1⟩ (fun hHeld => ?_)
          refine wpAnyH_take (i := 1) (oi := { dst := some 32, op := Op.move (Operand.tmp 5), type := 34, pos := "ref.go:65", after := #[], guard := none }) (v := ?_) rfl (by kernel_rfl) (by kernel_rfl) (by kernel_rfl) (fun _ _ _ h => h) (Or.inl ⟨by rfl, ?_⟩) (by assumption) ?_
          rotate_left
          · intro v hSw
            try dsimp only at hSw
            go_simp
            with_reducible rfl
          try simp only [Act.put, List.setIfInBounds_toArray, List.set_cons_zero, List.set_cons_succ]
          refine wpAnyH_take (i := 2) (oi := { dst := some 33, op := Op.move (Operand.tmp 6), type := 3, pos := "ref.go:65", after := #[], guard := none }) (v := ?_) rfl (by kernel_rfl) (by kernel_rfl) (by kernel_rfl) (fun _ _ _ h => h) (Or.inl ⟨by rfl, ?_⟩) (by assumption) ?_
          rotate_left
          · intro v hSw
            try dsimp only at hSw
            go_simp
            with_reducible rfl
          try simp only [Act.put, List.setIfInBounds_toArray, List.set_cons_zero, List.set_cons_succ]
          refine wpAnyH_take (i := 3) (oi := { dst := some 34, op := Op.indexAddr 34 (Operand.tmp 32) (Operand.tmp 33), type := 0, pos := "ref.go:65", after := #[{ on := 1, ground := Ground.data }, { on := 2, ground := Ground.data }], guard := none }) (v := ?_) rfl (by kernel_rfl) (by kernel_rfl) (by kernel_rfl) (fun _ _ _ h => h) (Or.inl ⟨by rfl, ?_⟩) (by assumption) ?_
          rotate_left
          · intro v hSw
            try dsimp only at hSw
            go_simp
            with_reducible rfl
          try simp only [Act.put, List.setIfInBounds_toArray, List.set_cons_zero, List.set_cons_succ]
          refine wpAnyH_take (i := 4) (oi := { dst := some 35, op := Op.load 142 (Operand.tmp 34), type := 142, pos := "ref.go:65", after := #[{ on := 3, ground := Ground.data }], guard := none }) (v := ?_) rfl (by kernel_rfl) (by kernel_rfl) (by kernel_rfl) (fun _ _ _ h => h) (Or.inl ⟨by rfl, ?_⟩) (by assumption) ?_
          rotate_left
          · intro v hSw
            try dsimp only at hSw
            go_simp
            with_reducible rfl
          try simp only [Act.put, List.setIfInBounds_toArray, List.set_cons_zero, List.set_cons_succ]
          refine wpAnyH_ready (rs := [0]) (by kernel_rfl) (by simp) ?_
          refine AllReadyH.cons (o := { dst := some 31, op := Op.load 37 (Operand.tmp 2), type := 37, pos := "ref.go:65", after := #[], guard := none }) rfl (fun K hK => ?_) AllReadyH.nil
          rw [if_pos (by rfl)]
          refine wp_load_mid 37 (.tmp 2) rfl w.heap.size 0 rfl (rcs d vk (.slice (some ⟨gw, 0, none⟩) d.wait.length cw)).toList _ (Box.range' (L := (rcs d vk (.slice (some ⟨gw, 0, none⟩) d.wait.length cw)).toList) BK.out.drew) Tryz.underlying37 rfl infoRef ?_
          refine hK.out _ _ ⟨c0, c1⟩ (fun hHeld0 => ?_)
          clear hK K
          try simp only [Act.put, List.setIfInBounds_toArray, List.set_cons_zero, List.set_cons_succ]
          refine wpAnyH_ready (rs := [5]) (by kernel_rfl) (by simp) ?_
          refine AllReadyH.cons (o := { dst := some 36, op := Op.call { callee := Callee.value (Operand.func 82), args := #[Operand.tmp 31, Operand.tmp 35], argTypes := #[37, 142] }, type := 37, pos := "ref.go:65", after := #[{ on := 0, ground := Ground.data }, { on := 4, ground := Ground.data }], guard := none }) rfl (fun K hK => ?_) AllReadyH.nil
          go_simp
          refine (put_upto RK.out.drew OK.out x HX.out HF.out).mono ?_
          rintro e y1 ⟨vn, rfl, rn, kn⟩
          have RN := Lib.hid rn
          have KN := Lib.hid ((Kp.refl (fun _ => False) wr).drew.trans kn)
          clear rn kn
          have d0 := (KN.out.cell (p := ⟨gw, k * 2, none⟩) (World.block_lt_of_cell? wr _ c0) (fun h => h)).trans c0
          have d1 := (KN.out.cell (p := ⟨gw, k * 2 + 1, none⟩) (World.block_lt_of_cell? wr _ c1) (fun h => h)).trans c1
          go_wp2_with fail
          refine hK.out _ _ ⟨d0, d1⟩ (fun hHeld5 => ?_)
          clear hK K
          try simp only [Act.put, List.setIfInBounds_toArray, List.set_cons_zero, List.set_cons_succ]
          refine wpAnyH_ready (rs := [6]) (by kernel_rfl) (by simp) ?_
          refine AllReadyH.cons (o := { dst := none, op := Op.store 37 (Operand.tmp 2) (Operand.tmp 36), type := 0, pos := "ref.go:65", after := #[{ on := 5, ground := Ground.data }, { on := 5, ground := Ground.chain }, { on := 0, ground := Ground.phase }, { on := 1, ground := Ground.phase }, { on := 2, ground := Ground.phase }, { on := 3, ground := Ground.phase }, { on := 4, ground := Ground.phase }, { on := 5, ground := Ground.phase }], guard := none }) rfl (fun K hK => ?_) AllReadyH.nil
          rw [if_pos (by rfl)]
          refine dwp_store_box 37 (.tmp 2) (.tmp 36) rfl w.heap.size (rcs d vn (.slice (some ⟨gw, 0, none⟩) d.wait.length cw)).toList rfl rfl (BK.out.kp KN.out (fun h => h)) rfl infoRef (rcs_one _ _ _ (by obtain ⟨_, A, cap, hv, _⟩ := RN.out.on; rw [hv]; rfl) rfl) ?_
          intro y2 hb2 hk2
          have B2 := Lib.hid hb2
          have K2 := Lib.hid hk2
          clear hb2 hk2
          have f0 := (K2.out.cell (p := ⟨gw, k * 2, none⟩) (World.block_lt_of_cell? y1 _ d0) hgw0).trans d0
          have f1 := (K2.out.cell (p := ⟨gw, k * 2 + 1, none⟩) (World.block_lt_of_cell? y1 _ d1) hgw0).trans d1
          refine hK.out _ _ ⟨f0, f1⟩ (fun hHeld6 => ?_)
          clear hK K
          try simp only [Act.put]
          refine wpAnyH_done (by kernel_rfl) ?_ _
          go_wp2_with fail
          go_roundw
          case rel => exact ⟨k + 1, vn, by omega, by go_num, B2.out, (BR.out.kp KN.out (fun h => h)).kp K2.out (fun e => by omega), (RN.out.kp K2.out (fun q cs fr e1 e2 => by
            have hb := BK.out.kp KN.out (fun h => h)
            rcases e1 with e1 | e1
            · exact type_off e1 hb (by decide) e2
            · exact type_off e1 hb (by decide) e2)), (HK.out.trans KN.out).trans_new K2.out (fun q e => .inl (by omega))⟩
          case measure => simp [intOf]; omega
        · have hyf : (y == 1) = false := by simpa using hy1
          rw [hyf] at hyb
          rw [hyb, if_neg (by decide)] at HN
          have HN' := Lib.hid HN.out
          clear HN hyf hyb
          have hy2 : ¬ ((y : Int) = 1) := by omega
          go_wp2_with fail
          go_roundw
          case rel => exact ⟨k + 1, vk, by omega, by go_num, BK.out, BR.out, HN'.out ▸ RK.out, HK.out⟩
          case measure => simp [intOf]; omega
      · have hd : decide (q < l.length) = false := by simpa using hql
        rw [hd, Bool.false_and] at HB
        have HN := Lib.hid (upto_next d (bitOf l) k x HX.out)
        rw [HB.out, if_neg (by decide)] at HN
        have HN' := Lib.hid HN.out
        clear HN hd
        go_wp2_with fail
        go_roundw
        case rel => exact ⟨k + 1, vk, by omega, by go_num, BK.out, BR.out, HN'.out ▸ RK.out, HK.out⟩
        case measure => simp [intOf]; omega
    · obtain rfl : k = d.wait.length := by omega
      have f1 := BK.out.free 1
      have f2 := BK.out.free 2
      have f3 := BK.out.free 3
      have f4 := BK.out.free 4
      have y1 : wr.cell? ⟨w.heap.size, 1, none⟩ = some (.slice Aw d.wait.length cw) := BK.out.cell 1
      have y2 : wr.cell? ⟨w.heap.size, 2, none⟩ = some (.bool (!d.power)) := BK.out.cell 2
      have y3 : wr.cell? ⟨w.heap.size, 3, none⟩ = some (.int .i64 (leftZ d)) := BK.out.cell 3
      have y4 : wr.cell? ⟨w.heap.size, 4, none⟩ = some (.string ⟨d.keep.toArray⟩) := BK.out.cell 4
      go_upto_region 14 with fail
      obtain ⟨D, hD⟩ : ∃ D, D = d.lose l := ⟨_, rfl⟩
      have B3 := ((((BK.out.put 1 (.slice none 0 0)).put 2 (.bool true)).put 3 (.int .i64 (-1))).put 4 (.string ⟨#[]⟩))
      have B4 := (((BR.out.far (p := ⟨w.heap.size, 1, none⟩) (by simp) (.slice none 0 0)).far (p := ⟨w.heap.size, 2, none⟩) (by simp) (.bool true)).far (p := ⟨w.heap.size, 3, none⟩) (by simp) (.int .i64 (-1))).far (p := ⟨w.heap.size, 4, none⟩) (by simp) (.string ⟨#[]⟩)
      have k1 := (((HK.out.setCell (p := ⟨w.heap.size, 1, none⟩) (.inl (Nat.le_refl _)) (.slice none 0 0)).setCell (p := ⟨w.heap.size, 2, none⟩) (.inl (Nat.le_refl _)) (.bool true)).setCell (p := ⟨w.heap.size, 3, none⟩) (.inl (Nat.le_refl _)) (.int .i64 (-1))).setCell (p := ⟨w.heap.size, 4, none⟩) (.inl (Nat.le_refl _)) (.string ⟨#[]⟩)
      have k4 := (((Kp.one wr w.heap.size 1 (.slice none 0 0)).trans (Kp.one _ w.heap.size 2 (.bool true))).trans (Kp.one _ w.heap.size 3 (.int .i64 (-1)))).trans (Kp.one _ w.heap.size 4 (.string ⟨#[]⟩))
      generalize ((((wr.setCell ⟨w.heap.size, 1, none⟩ (.slice none 0 0)).setCell ⟨w.heap.size, 2, none⟩ (.bool true)).setCell ⟨w.heap.size, 3, none⟩ (.int .i64 (-1))).setCell ⟨w.heap.size, 4, none⟩ (.string ⟨#[]⟩)) = W4 at *
      have hD3 : ((((rcs d vk (.slice Aw d.wait.length cw)).setIfInBounds 1 (.slice none 0 0)).setIfInBounds 2 (.bool true)).setIfInBounds 3 (.int .i64 (-1))).setIfInBounds 4 (.string ⟨#[]⟩) = rcs D vk (.slice none 0 0) := by
        rw [hD]
        simp [rcs, Dm.lose, leftZ]
      rw [hD3] at B3
      have hl4 : settleL (bitOf l) d.on (d.wait.take d.wait.length) = D.on := by rw [hD, List.take_length]; rfl
      have hR := RK.out.on.kp k4 (fun q cs fr e1 e2 => type_off e1 BK.out (by decide) e2)
      have hR2 : RdR W4 9 1 vk D.on.length (strs D.on) := by
        rw [← hl4]
        exact hR
      have h4 : Rf W4 vk (.slice none 0 0) D := ⟨hR2, by
        have e : D.wait = [] := by rw [hD]; rfl
        rw [e]
        exact RdR.nil _ _ _⟩
      have ho6 := h4.c1.1
      have HD := Lib.hid hD
      have B3' := Lib.hid B3
      have B4' := Lib.hid B4
      have K1' := Lib.hid k1
      have H4' := Lib.hid h4
      clear hD hD3 hl4 hR hR2 h4 B3 B4 k1 k4 f1 f2 f3 f4 y1 y2 y3 y4
      go_wp2_with (first | (refine wpList_load_mid rfl 37 (.tmp 2) rfl w.heap.size 0 rfl (rcs D vk (.slice none 0 0)).toList _ (Box.range' (L := (rcs D vk (.slice none 0 0)).toList) B3'.out) Tryz.underlying37 rfl infoRef ?_) | (refine dwpList_store_box rfl 37 (.tmp 4) (.tmp 41) rfl (w.heap.size + 1) (rcs D vk (.slice none 0 0)).toList rfl rfl B4'.out rfl infoRef (rcs_one _ _ _ ho6 rfl) ?_; intro w5 hb5 hk5) | fail)
      have k2 := K1'.out.trans_new hk5 (fun k e => .inl (by omega))
      have h5 : Rf w5 vk (.slice none 0 0) D := H4'.out.kp hk5 (fun q cs fr e1 e2 => by
        rcases e1 with e1 | e1
        · exact type_off e1 B4'.out (by decide) e2
        · exact type_off e1 B4'.out (by decide) e2)
      rw [← HD.out]
      refine bodyPost_ret (v := .agg (rcs D vk (.slice none 0 0))) ?_ rfl ⟨vk, rfl, h5, k2⟩
      exact results_cell_row Hr.out _ _ (w.heap.size + 1) 37 _ (0, 0) _ rfl hb5 Tryz.underlying37 rfl infoRef
end Go.Proofs.YtfcljcikajaedaaGreatDoor
