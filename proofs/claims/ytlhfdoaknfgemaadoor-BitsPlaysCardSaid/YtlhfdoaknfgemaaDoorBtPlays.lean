/- The law BitsPlays: whatever the number and the acts, it answers true, and nothing that was there is turned. Condition: the table of the lowest bit reads as the program's text lays it. -/
import Derived.Test.YtlhfdoaknfgemaaDoorBtPlaysA
import Derived.Deep.RegionHeld3
namespace Go.Proofs.YtlhfdoaknfgemaaDoor
open Go.RowKit

/-- What the loop keeps. -/
structure PlI (w : World) (gm gs gw gh n : Nat) (lb lh : List Bool) (W : World) : Prop where
  llb : lb.length = n
  llh : lh.length = n
  m : Mp W gm (fnL lb) n
  s : Mp W gs (fnL lh) n
  b : RdM W gw lb
  h : RdM W gh lh
  kp : Kp (fun _ => False) w W
theorem PlI.still {w : World} {gm gs gw gh n : Nat} {lb lh : List Bool} {W W' : World} (h : PlI w gm gs gw gh n lb lh W) (k : Kp (fun _ => False) W W') : PlI w gm gs gw gh n lb lh W' :=
  ⟨h.llb, h.llh, h.m.kp k (fun h => h), h.s.kp k (fun h => h), h.b.kp k (fun h => h), h.h.kp k (fun h => h), h.kp.trans k⟩
set_option maxRecDepth 100000 in
set_option maxHeartbeats 8000000 in
theorem plays_walk (n : Nat) (A : Option Addr) (l : List Ba) (c : Nat) (w : World) (hl : l.length ≤ 1500) (h1 : 1 ≤ n) (h2 : n ≤ 1024) (hr : RdA w A l) (tb : Tbl w) :
    Calls Tryd.prog 3 #[.int .i64 n, .slice A l.length c] w fun e w' => e = .returned (.bool true) ∧ Kp (fun _ => False) w w' := by
  have hnew := new_any (n : Int) w
  rw [if_pos ⟨by omega, by omega⟩, if_pos ⟨by omega, by omega⟩, Int.toNat_natCast] at hnew
  have HN := Lib.hid hnew
  have HR := Lib.hid hr
  have HT := Lib.hid tb
  have hni : (n : Int) ≤ 1024 := by omega
  have hn1 : (1 : Int) ≤ n := by omega
  have hli : (l.length : Int) ≤ 1500 := by omega
  have hd1 : decide ((n : Int) < 1) = false := by simp; omega
  have hd2 : decide (1024 < (n : Int)) = false := by simp; omega
  have hd3 : decide (1500 < (l.length : Int)) = false := by simp; omega
  have hnof := Lib.hid (show nof = fnL (List.replicate n false) by
    funext i
    unfold nof fnL
    rw [List.getD_eq_getElem?_getD]
    rcases Nat.lt_or_ge i n with h | h
    · rw [List.getElem?_replicate_of_lt h]; rfl
    · rw [List.getElem?_eq_none (by simpa using h)]; rfl)
  clear hnew hr tb
  go_enter Tryd.func3, Tryd.ntmps3
  go_wp2_with fail
  refine (HN.out).mono ?_
  rintro e w1 ⟨rfl, k1⟩
  have K1 := Lib.hid k1
  clear k1
  rw [hnof.out]
  go_upto_region 4 with (first | (refine bstore_box rfl 27 (.tmp 5) (.tmp 18) rfl (w1.heap.size) (mcs (fnL (List.replicate n false)) n) rfl rfl (Box.new w1 _ _) (by rw [mcs_length]; rfl) (infoMcs _ _) (mcs_one _ _) ?_; intro w2 hb2 hk2) | fail)
  have K2 := Lib.hid ((K1.out.alloc (.cells #[.int .u64 0, .int .u64 0, .int .u64 0, .int .u64 0, .int .u64 0, .int .u64 0, .int .u64 0, .int .u64 0, .int .u64 0, .int .u64 0, .int .u64 0, .int .u64 0, .int .u64 0, .int .u64 0, .int .u64 0, .int .u64 0, .int .i64 0] 27)).trans_new hk2 (fun k e => .inl (by have := K1.out.size; omega)))
  have M2 : Hid (Mp w2 w1.heap.size (fnL (List.replicate n false)) n) := Lib.hid hb2
  obtain ⟨gm, hgm⟩ : ∃ gm, w1.heap.size = gm := ⟨_, rfl⟩
  rw [hgm] at M2
  have HG := Lib.hid hgm
  rw [HG.out]
  have hmk := make_bools n (by omega) w2
  obtain ⟨W3, hW3, hm3, hb3, hk3⟩ : ∃ W3, W3 = w2.alloc (.cells (bls (List.replicate n false)).toArray 4) ∧ Mp W3 gm (fnL (List.replicate n false)) n ∧ RdM W3 w2.heap.size (List.replicate n false) ∧ Kp (fun _ => False) w W3 :=
    ⟨_, rfl, M2.out.alloc _, RdM.new w2 _, K2.out.alloc _⟩
  rw [← hW3] at hmk
  obtain ⟨gt, hgt⟩ : ∃ gt, w2.heap.size = gt := ⟨_, rfl⟩
  rw [hgt] at hmk hb3
  have hgw := Lib.hid (show w.heap.size ≤ gm by have := K1.out.size; omega)
  have B3 := Lib.hid hb3
  have M3 := Lib.hid hm3
  have K3 := Lib.hid hk3
  clear hb2 hk2 hgm hW3 hm3 hb3 hk3 hgt
  go_upto_region 8 with (first | (refine wpList_load_mid rfl 27 (.tmp 5) rfl gm 0 rfl (mcs (fnL (List.replicate n false)) n) _ (Mp.range M3.out) Tryd.underlying27 rfl (infoMca _ _) ?_) | (refine bstore_box rfl 27 (.tmp 8) (.tmp 43) rfl (W3.heap.size) (mcs (fnL (List.replicate n false)) n) rfl rfl (Box.new W3 _ _) (by rw [mcs_length]; rfl) (infoMcs _ _) (mcs_one _ _) ?_; intro w4 hb4 hk4) | fail)
  have hsz3 := M3.out.lt
  have K4 := Lib.hid ((K3.out.alloc (.cells #[.int .u64 0, .int .u64 0, .int .u64 0, .int .u64 0, .int .u64 0, .int .u64 0, .int .u64 0, .int .u64 0, .int .u64 0, .int .u64 0, .int .u64 0, .int .u64 0, .int .u64 0, .int .u64 0, .int .u64 0, .int .u64 0, .int .i64 0] 27)).trans_new hk4 (fun k e => .inl (by have := K3.out.size; omega)))
  have N4 : Hid (Mp w4 W3.heap.size (fnL (List.replicate n false)) n) := Lib.hid hb4
  have M4 := Lib.hid ((M3.out.alloc (.cells #[.int .u64 0, .int .u64 0, .int .u64 0, .int .u64 0, .int .u64 0, .int .u64 0, .int .u64 0, .int .u64 0, .int .u64 0, .int .u64 0, .int .u64 0, .int .u64 0, .int .u64 0, .int .u64 0, .int .u64 0, .int .u64 0, .int .i64 0] 27)).kp hk4 (fun e => by omega))
  have B4 := Lib.hid ((B3.out.alloc (.cells #[.int .u64 0, .int .u64 0, .int .u64 0, .int .u64 0, .int .u64 0, .int .u64 0, .int .u64 0, .int .u64 0, .int .u64 0, .int .u64 0, .int .u64 0, .int .u64 0, .int .u64 0, .int .u64 0, .int .u64 0, .int .u64 0, .int .i64 0] 27)).kp hk4 (fun e => by have := B3.out.lt; omega))
  obtain ⟨gs, hgs⟩ : ∃ gs, W3.heap.size = gs := ⟨_, rfl⟩
  rw [hgs] at N4
  have HGS := Lib.hid hgs
  rw [HGS.out]
  have hgsw := Lib.hid (show w.heap.size ≤ gs by have := K3.out.size; omega)
  have hmne := Lib.hid (show gm ≠ gs by omega)
  clear hmk hb4 hk4 hgs hsz3
  have Hrl : Hid ((List.replicate n false).length = n) := Lib.hid List.length_replicate
  go_wp2_with fail
  have HB0 : Hid (PlI w gm gs gt gt n (List.replicate n false) (List.replicate n false) w4) := Lib.hid ⟨Hrl.out, Hrl.out, M4.out, N4.out, B4.out, B4.out, K4.out⟩
  go_loopw [7, 9, 10] (fun mv hv i wr => ∃ (k : Nat) (lb lh : List Bool) (gw cw gh ch : Nat), k ≤ l.length ∧ i = .int .i64 k ∧ mv = .slice (some ⟨gw, 0, none⟩) n cw ∧ hv = .slice (some ⟨gh, 0, none⟩) n ch ∧ PlI w gm gs gw gh n lb lh wr)
    (fun _ _ i _ => l.length - (intOf i).toNat)
  case atStart => exact ⟨0, _, _, gt, n, gt, n, Nat.zero_le _, rfl, rfl, rfl, HB0.out⟩
  case round =>
    obtain ⟨k, lb, lh, gw, cw, gh, ch, hk, rfl, rfl, rfl, hI⟩ := hrel
    have HI := Lib.hid hI
    have HLB := Lib.hid hI.llb
    clear hI
    by_cases hlt : k < l.length
    · obtain ⟨b, o, hA, hc0, hc1⟩ := (HR.out.kp HI.out.kp (fun _ _ h => h)).at' hlt
      subst hA
      obtain ⟨xi, hxi⟩ : ∃ xi, l[k].i = xi := ⟨_, rfl⟩
      obtain ⟨xu, hxu⟩ : ∃ xu, l[k].u = xu := ⟨_, rfl⟩
      rw [hxi] at hc0
      rw [hxu] at hc1
      have hbw : b < w.heap.size := by
        rcases HR.out with h0 | ⟨b', o', e, hc⟩
        · rw [h0] at hlt; simp at hlt
        · cases e
          exact World.block_lt_of_cell? w _ (hc k l[k] (List.getElem?_eq_getElem hlt) 0 _ rfl)
      have HBW := Lib.hid hbw
      have hset := set_any (fnL lb) n xi xu
      have hfs := fnL_set lb xi xu
      rw [HLB.out] at hfs
      simp only [hfs] at hset
      have HSET := Lib.hid hset
      have hsl := Lib.hid (show (setB lb xi xu).length = n by rw [setB_length]; exact HLB.out)
      have hsz := Tryd.sizeOf36
      have hki : (k : Int) < l.length := by omega
      have HC := Lib.hid (show wr.cell? ⟨b, o + k * 2, none⟩ = some (.int .i64 xi) ∧ wr.cell? ⟨b, o + k * 2 + 1, none⟩ = some (.bool xu) from ⟨hc0, hc1⟩)
      clear hxi hxu hbw hset hfs hc0 hc1
      go_upto_region 11 with fail
      refine wp_region_held_drew (S := fun v => v.cell? ⟨b, o + k * 2, none⟩ = some (.int .i64 xi) ∧ v.cell? ⟨b, o + k * 2 + 1, none⟩ = some (.bool xu)) (by kernel_rfl) (HC.out) (fun hHeld => ?_)
      refine wpAnyH_take (i := 1) (oi := { dst := some 52, op := Op.move (Operand.tmp 1), type := 22, pos := "law.go:53", after := #[], guard := none }) (v := ?_) rfl (by kernel_rfl) (by kernel_rfl) (by kernel_rfl) (fun _ _ _ h => h) (Or.inl ⟨by rfl, ?_⟩) (by assumption) ?_
      rotate_left
      · intro v hSw
        try dsimp only at hSw
        go_simp
        with_reducible rfl
      try simp only [Act.put, List.setIfInBounds_toArray, List.set_cons_zero, List.set_cons_succ]
      refine wpAnyH_take (i := 2) (oi := { dst := some 53, op := Op.move (Operand.tmp 10), type := 3, pos := "law.go:53", after := #[], guard := none }) (v := ?_) rfl (by kernel_rfl) (by kernel_rfl) (by kernel_rfl) (fun _ _ _ h => h) (Or.inl ⟨by rfl, ?_⟩) (by assumption) ?_
      rotate_left
      · intro v hSw
        try dsimp only at hSw
        go_simp
        with_reducible rfl
      try simp only [Act.put, List.setIfInBounds_toArray, List.set_cons_zero, List.set_cons_succ]
      refine wpAnyH_take (i := 3) (oi := { dst := some 54, op := Op.indexAddr 22 (Operand.tmp 52) (Operand.tmp 53), type := 0, pos := "law.go:53", after := #[{ on := 1, ground := Ground.data }, { on := 2, ground := Ground.data }], guard := none }) (v := ?_) rfl (by kernel_rfl) (by kernel_rfl) (by kernel_rfl) (fun _ _ _ h => h) (Or.inl ⟨by rfl, ?_⟩) (by assumption) ?_
      rotate_left
      · intro v hSw
        try dsimp only at hSw
        go_simp
        with_reducible rfl
      try simp only [Act.put, List.setIfInBounds_toArray, List.set_cons_zero, List.set_cons_succ]
      refine wpAnyH_take (i := 4) (oi := { dst := some 55, op := Op.fieldAddr 36 (Operand.tmp 54) 0, type := 0, pos := "law.go:53", after := #[{ on := 3, ground := Ground.data }], guard := none }) (v := ?_) rfl (by kernel_rfl) (by kernel_rfl) (by kernel_rfl) (fun _ _ _ h => h) (Or.inl ⟨by rfl, ?_⟩) (by assumption) ?_
      rotate_left
      · intro v hSw
        try dsimp only at hSw
        go_simp
        with_reducible rfl
      try simp only [Act.put, List.setIfInBounds_toArray, List.set_cons_zero, List.set_cons_succ]
      refine wpAnyH_take (i := 5) (oi := { dst := some 56, op := Op.load 3 (Operand.tmp 55), type := 3, pos := "law.go:53", after := #[{ on := 4, ground := Ground.data }], guard := none }) (v := ?_) rfl (by kernel_rfl) (by kernel_rfl) (by kernel_rfl) (fun _ _ _ h => h) (Or.inl ⟨by rfl, ?_⟩) (by assumption) ?_
      rotate_left
      · intro v hSw
        obtain ⟨y0, y1⟩ := hSw
        try dsimp only at hSw
        go_simp
        with_reducible rfl
      try simp only [Act.put, List.setIfInBounds_toArray, List.set_cons_zero, List.set_cons_succ]
      refine wpAnyH_take (i := 6) (oi := { dst := some 57, op := Op.move (Operand.tmp 1), type := 22, pos := "law.go:53", after := #[], guard := none }) (v := ?_) rfl (by kernel_rfl) (by kernel_rfl) (by kernel_rfl) (fun _ _ _ h => h) (Or.inl ⟨by rfl, ?_⟩) (by assumption) ?_
      rotate_left
      · intro v hSw
        try dsimp only at hSw
        go_simp
        with_reducible rfl
      try simp only [Act.put, List.setIfInBounds_toArray, List.set_cons_zero, List.set_cons_succ]
      refine wpAnyH_take (i := 7) (oi := { dst := some 58, op := Op.move (Operand.tmp 10), type := 3, pos := "law.go:53", after := #[], guard := none }) (v := ?_) rfl (by kernel_rfl) (by kernel_rfl) (by kernel_rfl) (fun _ _ _ h => h) (Or.inl ⟨by rfl, ?_⟩) (by assumption) ?_
      rotate_left
      · intro v hSw
        try dsimp only at hSw
        go_simp
        with_reducible rfl
      try simp only [Act.put, List.setIfInBounds_toArray, List.set_cons_zero, List.set_cons_succ]
      refine wpAnyH_take (i := 8) (oi := { dst := some 59, op := Op.indexAddr 22 (Operand.tmp 57) (Operand.tmp 58), type := 0, pos := "law.go:53", after := #[{ on := 6, ground := Ground.data }, { on := 7, ground := Ground.data }], guard := none }) (v := ?_) rfl (by kernel_rfl) (by kernel_rfl) (by kernel_rfl) (fun _ _ _ h => h) (Or.inl ⟨by rfl, ?_⟩) (by assumption) ?_
      rotate_left
      · intro v hSw
        try dsimp only at hSw
        go_simp
        with_reducible rfl
      try simp only [Act.put, List.setIfInBounds_toArray, List.set_cons_zero, List.set_cons_succ]
      refine wpAnyH_take (i := 9) (oi := { dst := some 60, op := Op.fieldAddr 36 (Operand.tmp 59) 1, type := 0, pos := "law.go:53", after := #[{ on := 8, ground := Ground.data }], guard := none }) (v := ?_) rfl (by kernel_rfl) (by kernel_rfl) (by kernel_rfl) (fun _ _ _ h => h) (Or.inl ⟨by rfl, ?_⟩) (by assumption) ?_
      rotate_left
      · intro v hSw
        try dsimp only at hSw
        go_simp
        with_reducible rfl
      try simp only [Act.put, List.setIfInBounds_toArray, List.set_cons_zero, List.set_cons_succ]
      refine wpAnyH_take (i := 10) (oi := { dst := some 61, op := Op.load 4 (Operand.tmp 60), type := 4, pos := "law.go:53", after := #[{ on := 9, ground := Ground.data }], guard := none }) (v := ?_) rfl (by kernel_rfl) (by kernel_rfl) (by kernel_rfl) (fun _ _ _ h => h) (Or.inl ⟨by rfl, ?_⟩) (by assumption) ?_
      rotate_left
      · intro v hSw
        obtain ⟨y0, y1⟩ := hSw
        try dsimp only at hSw
        go_simp
        with_reducible rfl
      try simp only [Act.put, List.setIfInBounds_toArray, List.set_cons_zero, List.set_cons_succ]
      refine wpAnyH_ready (rs := [0]) (by kernel_rfl) (by simp) ?_
      refine AllReadyH.cons (o := { dst := some 51, op := Op.load 27 (Operand.tmp 5), type := 27, pos := "law.go:53", after := #[], guard := none }) rfl (fun K hK => ?_) AllReadyH.nil
      rw [if_pos (by rfl)]
      refine wp_load_mid 27 (.tmp 5) rfl gm 0 rfl (mcs (fnL lb) n) _ (Mp.range HI.out.m.drew) Tryd.underlying27 rfl (infoMcs _ _) ?_
      refine hK.out _ _ (HC.out) (fun hHeld1 => ?_)
      clear hK K
      try simp only [Act.put, List.setIfInBounds_toArray, List.set_cons_zero, List.set_cons_succ]
      refine wpAnyH_ready (rs := [11]) (by kernel_rfl) (by simp) ?_
      refine AllReadyH.cons (o := { dst := some 62, op := Op.call { callee := Callee.value (Operand.func 9), args := #[Operand.tmp 51, Operand.tmp 56, Operand.tmp 61], argTypes := #[27, 3, 4] }, type := 27, pos := "law.go:53", after := #[{ on := 0, ground := Ground.data }, { on := 5, ground := Ground.data }, { on := 10, ground := Ground.data }], guard := none }) rfl (fun K hK => ?_) AllReadyH.nil
      go_simp
      refine (HSET.out _ h2).mono ?_
      rintro e w5 ⟨rfl, k5⟩
      have K5 := Lib.hid ((Kp.refl (fun _ => False) wr).drew.trans k5)
      have I5 := Lib.hid (HI.out.still K5.out)
      clear k5
      go_wp2_with fail
      refine hK.out _ _ (⟨(K5.out.cell (p := ⟨b, o + k * 2, none⟩) (World.block_lt_of_cell? wr _ HC.out.1) (fun h => h)).trans HC.out.1, (K5.out.cell (p := ⟨b, o + k * 2 + 1, none⟩) (World.block_lt_of_cell? wr _ HC.out.2) (fun h => h)).trans HC.out.2⟩) (fun hHeld2 => ?_)
      clear hK K
      try simp only [Act.put, List.setIfInBounds_toArray, List.set_cons_zero, List.set_cons_succ]
      refine wpAnyH_ready (rs := [12]) (by kernel_rfl) (by simp) ?_
      refine AllReadyH.cons (o := { dst := none, op := Op.store 27 (Operand.tmp 5) (Operand.tmp 62), type := 0, pos := "law.go:53", after := #[{ on := 11, ground := Ground.data }, { on := 11, ground := Ground.chain }, { on := 0, ground := Ground.phase }, { on := 1, ground := Ground.phase }, { on := 2, ground := Ground.phase }, { on := 3, ground := Ground.phase }, { on := 4, ground := Ground.phase }, { on := 5, ground := Ground.phase }, { on := 6, ground := Ground.phase }, { on := 7, ground := Ground.phase }, { on := 8, ground := Ground.phase }, { on := 9, ground := Ground.phase }, { on := 10, ground := Ground.phase }, { on := 11, ground := Ground.phase }], guard := none }) rfl (fun K hK => ?_) AllReadyH.nil
      rw [if_pos (by rfl)]
      refine bwp_store_box 27 (.tmp 5) (.tmp 62) rfl gm (mcs (fnL (setB lb xi xu)) n) rfl rfl I5.out.m (by simp [mcs_length]) (infoMcs _ _) (mcs_one _ _) ?_
      intro w6 hb6 hk6
      have M6 : Hid (Mp w6 gm (fnL (setB lb xi xu)) n) := Lib.hid hb6
      have K6 := Lib.hid hk6
      clear hb6 hk6
      refine hK.out _ _ (⟨(K6.out.cell (p := ⟨b, o + k * 2, none⟩) (World.block_lt_of_cell? w5 _ hHeld2.1) (by have h1 := HBW.out; have h2 := hgw.out; intro e; have e2 : b = gm := e; omega)).trans hHeld2.1, (K6.out.cell (p := ⟨b, o + k * 2 + 1, none⟩) (World.block_lt_of_cell? w5 _ hHeld2.2) (by have h1 := HBW.out; have h2 := hgw.out; intro e; have e2 : b = gm := e; omega)).trans hHeld2.2⟩) (fun hHeld3 => ?_)
      clear hK K
      try simp only [Act.put]
      refine wpAnyH_done (by kernel_rfl) ?_ _
      have HC6 : Hid (w6.cell? ⟨b, o + k * 2, none⟩ = some (.int .i64 xi) ∧ w6.cell? ⟨b, o + k * 2 + 1, none⟩ = some (.bool xu)) := Lib.hid (by
        have c5 : w5.cell? ⟨b, o + k * 2, none⟩ = some (.int .i64 xi) ∧ w5.cell? ⟨b, o + k * 2 + 1, none⟩ = some (.bool xu) := ⟨(K5.out.cell (p := ⟨b, o + k * 2, none⟩) (World.block_lt_of_cell? wr _ HC.out.1) (fun h => h)).trans HC.out.1, (K5.out.cell (p := ⟨b, o + k * 2 + 1, none⟩) (World.block_lt_of_cell? wr _ HC.out.2) (fun h => h)).trans HC.out.2⟩
        have hne : b ≠ gm := by have h1 := HBW.out; have h2 := hgw.out; omega
        exact ⟨(K6.out.cell (p := ⟨b, o + k * 2, none⟩) (World.block_lt_of_cell? w5 _ c5.1) hne).trans c5.1, (K6.out.cell (p := ⟨b, o + k * 2 + 1, none⟩) (World.block_lt_of_cell? w5 _ c5.2) hne).trans c5.2⟩)
      have S6 := Lib.hid (I5.out.s.kp K6.out (fun e => hmne.out e.symm))
      have B6 := Lib.hid (I5.out.b.kp K6.out (rdm_mp I5.out.b I5.out.m))
      have H6 := Lib.hid (I5.out.h.kp K6.out (rdm_mp I5.out.h I5.out.m))
      have Q6 := Lib.hid (I5.out.kp.trans_new K6.out (fun k e => .inl (by have := hgw.out; omega)))
      have HLH := Lib.hid I5.out.llh
      clear HI HSET HC I5 K5 K6 hHeld hHeld1 hHeld2 hHeld3
      go_upto_region 12 with fail
      refine wp_region_held_drew (S := fun v => v.cell? ⟨b, o + k * 2, none⟩ = some (.int .i64 xi) ∧ v.cell? ⟨b, o + k * 2 + 1, none⟩ = some (.bool xu)) (by kernel_rfl) (HC6.out) (fun hHeld => ?_)
      refine wpAnyH_take (i := 0) (oi := { dst := some 63, op := Op.move (Operand.tmp 7), type := 33, pos := "law.go:54", after := #[], guard := none }) (v := ?_) rfl (by kernel_rfl) (by kernel_rfl) (by kernel_rfl) (fun _ _ _ h => h) (Or.inl ⟨by rfl, ?_⟩) (by assumption) ?_
      rotate_left
      · intro v hSw
        try dsimp only at hSw
        go_simp
        with_reducible rfl
      try simp only [Act.put, List.setIfInBounds_toArray, List.set_cons_zero, List.set_cons_succ]
      refine wpAnyH_take (i := 1) (oi := { dst := some 64, op := Op.move (Operand.tmp 1), type := 22, pos := "law.go:54", after := #[], guard := none }) (v := ?_) rfl (by kernel_rfl) (by kernel_rfl) (by kernel_rfl) (fun _ _ _ h => h) (Or.inl ⟨by rfl, ?_⟩) (by assumption) ?_
      rotate_left
      · intro v hSw
        try dsimp only at hSw
        go_simp
        with_reducible rfl
      try simp only [Act.put, List.setIfInBounds_toArray, List.set_cons_zero, List.set_cons_succ]
      refine wpAnyH_take (i := 2) (oi := { dst := some 65, op := Op.move (Operand.tmp 10), type := 3, pos := "law.go:54", after := #[], guard := none }) (v := ?_) rfl (by kernel_rfl) (by kernel_rfl) (by kernel_rfl) (fun _ _ _ h => h) (Or.inl ⟨by rfl, ?_⟩) (by assumption) ?_
      rotate_left
      · intro v hSw
        try dsimp only at hSw
        go_simp
        with_reducible rfl
      try simp only [Act.put, List.setIfInBounds_toArray, List.set_cons_zero, List.set_cons_succ]
      refine wpAnyH_take (i := 3) (oi := { dst := some 66, op := Op.indexAddr 22 (Operand.tmp 64) (Operand.tmp 65), type := 0, pos := "law.go:54", after := #[{ on := 1, ground := Ground.data }, { on := 2, ground := Ground.data }], guard := none }) (v := ?_) rfl (by kernel_rfl) (by kernel_rfl) (by kernel_rfl) (fun _ _ _ h => h) (Or.inl ⟨by rfl, ?_⟩) (by assumption) ?_
      rotate_left
      · intro v hSw
        try dsimp only at hSw
        go_simp
        with_reducible rfl
      try simp only [Act.put, List.setIfInBounds_toArray, List.set_cons_zero, List.set_cons_succ]
      refine wpAnyH_take (i := 4) (oi := { dst := some 67, op := Op.fieldAddr 36 (Operand.tmp 66) 0, type := 0, pos := "law.go:54", after := #[{ on := 3, ground := Ground.data }], guard := none }) (v := ?_) rfl (by kernel_rfl) (by kernel_rfl) (by kernel_rfl) (fun _ _ _ h => h) (Or.inl ⟨by rfl, ?_⟩) (by assumption) ?_
      rotate_left
      · intro v hSw
        try dsimp only at hSw
        go_simp
        with_reducible rfl
      try simp only [Act.put, List.setIfInBounds_toArray, List.set_cons_zero, List.set_cons_succ]
      refine wpAnyH_take (i := 5) (oi := { dst := some 68, op := Op.load 3 (Operand.tmp 67), type := 3, pos := "law.go:54", after := #[{ on := 4, ground := Ground.data }], guard := none }) (v := ?_) rfl (by kernel_rfl) (by kernel_rfl) (by kernel_rfl) (fun _ _ _ h => h) (Or.inl ⟨by rfl, ?_⟩) (by assumption) ?_
      rotate_left
      · intro v hSw
        obtain ⟨y0, y1⟩ := hSw
        try dsimp only at hSw
        go_simp
        with_reducible rfl
      try simp only [Act.put, List.setIfInBounds_toArray, List.set_cons_zero, List.set_cons_succ]
      refine wpAnyH_take (i := 6) (oi := { dst := some 69, op := Op.move (Operand.tmp 1), type := 22, pos := "law.go:54", after := #[], guard := none }) (v := ?_) rfl (by kernel_rfl) (by kernel_rfl) (by kernel_rfl) (fun _ _ _ h => h) (Or.inl ⟨by rfl, ?_⟩) (by assumption) ?_
      rotate_left
      · intro v hSw
        try dsimp only at hSw
        go_simp
        with_reducible rfl
      try simp only [Act.put, List.setIfInBounds_toArray, List.set_cons_zero, List.set_cons_succ]
      refine wpAnyH_take (i := 7) (oi := { dst := some 70, op := Op.move (Operand.tmp 10), type := 3, pos := "law.go:54", after := #[], guard := none }) (v := ?_) rfl (by kernel_rfl) (by kernel_rfl) (by kernel_rfl) (fun _ _ _ h => h) (Or.inl ⟨by rfl, ?_⟩) (by assumption) ?_
      rotate_left
      · intro v hSw
        try dsimp only at hSw
        go_simp
        with_reducible rfl
      try simp only [Act.put, List.setIfInBounds_toArray, List.set_cons_zero, List.set_cons_succ]
      refine wpAnyH_take (i := 8) (oi := { dst := some 71, op := Op.indexAddr 22 (Operand.tmp 69) (Operand.tmp 70), type := 0, pos := "law.go:54", after := #[{ on := 6, ground := Ground.data }, { on := 7, ground := Ground.data }], guard := none }) (v := ?_) rfl (by kernel_rfl) (by kernel_rfl) (by kernel_rfl) (fun _ _ _ h => h) (Or.inl ⟨by rfl, ?_⟩) (by assumption) ?_
      rotate_left
      · intro v hSw
        try dsimp only at hSw
        go_simp
        with_reducible rfl
      try simp only [Act.put, List.setIfInBounds_toArray, List.set_cons_zero, List.set_cons_succ]
      refine wpAnyH_take (i := 9) (oi := { dst := some 72, op := Op.fieldAddr 36 (Operand.tmp 71) 1, type := 0, pos := "law.go:54", after := #[{ on := 8, ground := Ground.data }], guard := none }) (v := ?_) rfl (by kernel_rfl) (by kernel_rfl) (by kernel_rfl) (fun _ _ _ h => h) (Or.inl ⟨by rfl, ?_⟩) (by assumption) ?_
      rotate_left
      · intro v hSw
        try dsimp only at hSw
        go_simp
        with_reducible rfl
      try simp only [Act.put, List.setIfInBounds_toArray, List.set_cons_zero, List.set_cons_succ]
      refine wpAnyH_take (i := 10) (oi := { dst := some 73, op := Op.load 4 (Operand.tmp 72), type := 4, pos := "law.go:54", after := #[{ on := 9, ground := Ground.data }], guard := none }) (v := ?_) rfl (by kernel_rfl) (by kernel_rfl) (by kernel_rfl) (fun _ _ _ h => h) (Or.inl ⟨by rfl, ?_⟩) (by assumption) ?_
      rotate_left
      · intro v hSw
        obtain ⟨y0, y1⟩ := hSw
        try dsimp only at hSw
        go_simp
        with_reducible rfl
      try simp only [Act.put, List.setIfInBounds_toArray, List.set_cons_zero, List.set_cons_succ]
      refine wpAnyH_ready (rs := [11]) (by kernel_rfl) (by simp) ?_
      refine AllReadyH.cons (o := { dst := some 74, op := Op.call { callee := Callee.value (Operand.func 10), args := #[Operand.tmp 63, Operand.tmp 68, Operand.tmp 73], argTypes := #[33, 3, 4] }, type := 33, pos := "law.go:54", after := #[{ on := 0, ground := Ground.data }, { on := 5, ground := Ground.data }, { on := 10, ground := Ground.data }], guard := none }) rfl (fun K hK => ?_) AllReadyH.nil
      go_simp
      have hrs := rset_any gw cw lb xi xu w6.drew (B6.out.kp (Kp.refl (fun _ => False) _).drew (fun h => h)) (by rw [HLB.out]; exact h1) (by rw [HLB.out]; exact h2)
      rw [HLB.out] at hrs
      refine hrs.mono ?_
      clear hrs
      rintro e w7 ⟨gv, cv, rfl, hb7, hgv, k7⟩
      have K7 := Lib.hid ((Kp.refl (fun _ => False) w6).drew.trans k7)
      have B7 := Lib.hid hb7
      clear k7 hb7 hgv
      go_wp2_with fail
      refine hK.out _ _ (⟨(K7.out.cell (p := ⟨b, o + k * 2, none⟩) (World.block_lt_of_cell? w6 _ HC6.out.1) (fun h => h)).trans HC6.out.1, (K7.out.cell (p := ⟨b, o + k * 2 + 1, none⟩) (World.block_lt_of_cell? w6 _ HC6.out.2) (fun h => h)).trans HC6.out.2⟩) (fun hHeld4 => ?_)
      clear hK K
      try simp only [Act.put, List.setIfInBounds_toArray, List.set_cons_zero, List.set_cons_succ]
      refine wpAnyH_take (i := 12) (oi := { dst := some 7, op := Op.assign (Operand.tmp 74), type := 33, pos := "law.go:54", after := #[{ on := 11, ground := Ground.data }, { on := 11, ground := Ground.chain }, { on := 0, ground := Ground.phase }, { on := 1, ground := Ground.phase }, { on := 2, ground := Ground.phase }, { on := 3, ground := Ground.phase }, { on := 4, ground := Ground.phase }, { on := 5, ground := Ground.phase }, { on := 6, ground := Ground.phase }, { on := 7, ground := Ground.phase }, { on := 8, ground := Ground.phase }, { on := 9, ground := Ground.phase }, { on := 10, ground := Ground.phase }, { on := 11, ground := Ground.phase }], guard := none }) (v := ?_) rfl (by kernel_rfl) (by kernel_rfl) (by kernel_rfl) (fun _ _ _ h => h) (Or.inl ⟨by rfl, ?_⟩) (by assumption) ?_
      rotate_left
      · intro v hSw
        try dsimp only at hSw
        go_simp
        with_reducible rfl
      try simp only [Act.put, List.setIfInBounds_toArray, List.set_cons_zero, List.set_cons_succ]
      refine wpAnyH_done (by kernel_rfl) ?_ _
      have I7 : Hid (PlI w gm gs gv gh n (setB lb xi xu) lh w7) := Lib.hid ⟨hsl.out, HLH.out, M6.out.kp K7.out (fun h => h), S6.out.kp K7.out (fun h => h), B7.out, H6.out.kp K7.out (fun h => h), Q6.out.trans K7.out⟩
      have hd : (l.length : Int) / 2 = ((l.length / 2 : Nat) : Int) := by omega
      obtain ⟨hf, hfe⟩ : ∃ hf, l.length / 2 = hf := ⟨_, rfl⟩
      rw [hfe] at hd
      clear hfe M6 S6 B6 H6 Q6 HC6 K7 B7 hHeld
      by_cases hh : k = hf
      · have hb : ((k : Int) == (hf : Int)) = true := by simp; omega
        clear hh
        go_upto_region 14 with fail
        go_upto_region 15 with (first | (refine wpList_load_mid rfl 27 (.tmp 5) rfl gm 0 rfl (mcs (fnL (setB lb xi xu)) n) _ (Mp.range I7.out.m) Tryd.underlying27 rfl (infoMca _ _) ?_) | (refine bstore_box rfl 27 (.tmp 8) (.tmp 80) rfl (gs) (mcs (fnL (setB lb xi xu)) n) rfl rfl I7.out.s (by simp [mcs_length]) (infoMcs _ _) (mcs_one _ _) ?_; intro w9 hb9 hk9) | fail)
        have K9 := Lib.hid hk9
        have I9 : Hid (PlI w gm gs gv gv n (setB lb xi xu) (setB lb xi xu) w9) := Lib.hid ⟨hsl.out, hsl.out, I7.out.m.kp K9.out hmne.out, hb9, I7.out.b.kp K9.out (rdm_mp I7.out.b I7.out.s), I7.out.b.kp K9.out (rdm_mp I7.out.b I7.out.s), I7.out.kp.trans_new K9.out (fun k e => .inl (by have := hgsw.out; omega))⟩
        clear hb9 hk9
        go_wp2_with fail
        go_roundw
        case rel => exact ⟨k + 1, setB lb xi xu, setB lb xi xu, gv, cv, gv, cv, by omega, by go_num, rfl, rfl, I9.out⟩
        case measure => simp [intOf]; omega
      · have hb : ((k : Int) == (hf : Int)) = false := by simp; omega
        clear hh
        go_wp2_with fail
        go_roundw
        case rel => exact ⟨k + 1, setB lb xi xu, lh, gv, cv, gh, ch, by omega, by go_num, rfl, rfl, I7.out⟩
        case measure => simp [intOf]; omega
    · have hkl : ¬ (k : Int) < l.length := by omega
      have HTr := Lib.hid (HT.out.kp HI.out.kp (fun h => h))
      have HLH := Lib.hid HI.out.llh
      obtain ⟨sp, hsp⟩ : ∃ sp : ByteArray, (⟨(pageL (fnL lb)).toArray⟩ : ByteArray) = sp := ⟨_, rfl⟩
      have HSP := Lib.hid hsp
      have hss : (sp.toList == sp.toList) = true := by simp
      have hwf := fnL_wf lb (by rw [HLB.out]; exact h2)
      rw [HLB.out] at hwf
      have HWF := Lib.hid hwf
      clear hlt hsp hwf
      go_upto_region 16 with fail
      refine wp_region_held_drew (S := fun v => PlI w gm gs gw gh n lb lh v) (by kernel_rfl) (HI.out.still (Kp.refl _ wr).drew) (fun hHeld => ?_)
      refine wpAnyH_take (i := 0) (oi := { dst := some 82, op := Op.move (Operand.tmp 6), type := 28, pos := "law.go:60", after := #[], guard := none }) (v := ?_) rfl (by kernel_rfl) (by kernel_rfl) (by kernel_rfl) (fun _ _ _ h => h) (Or.inl ⟨by rfl, ?_⟩) (by assumption) ?_
      rotate_left
      · intro v hSw
        try dsimp only at hSw
        go_simp
        with_reducible rfl
      try simp only [Act.put, List.setIfInBounds_toArray, List.set_cons_zero, List.set_cons_succ]
      refine wpAnyH_take (i := 1) (oi := { dst := some 83, op := Op.binOp BinOp.eql 28 (Operand.tmp 82) (Operand.const (Value.int IntKind.i64 0)) 28, type := 4, pos := "law.go:60", after := #[{ on := 0, ground := Ground.data }], guard := none }) (v := ?_) rfl (by kernel_rfl) (by kernel_rfl) (by kernel_rfl) (fun _ _ _ h => h) (Or.inl ⟨by rfl, ?_⟩) (by assumption) ?_
      rotate_left
      · intro v hSw
        try dsimp only at hSw
        go_simp
        with_reducible rfl
      try simp only [Act.put, List.setIfInBounds_toArray, List.set_cons_zero, List.set_cons_succ]
      refine wpAnyH_take (i := 2) (oi := { dst := some 84, op := Op.move (Operand.tmp 83), type := 4, pos := "law.go:60", after := #[{ on := 1, ground := Ground.data }], guard := none }) (v := ?_) rfl (by kernel_rfl) (by kernel_rfl) (by kernel_rfl) (fun _ _ _ h => h) (Or.inl ⟨by rfl, ?_⟩) (by assumption) ?_
      rotate_left
      · intro v hSw
        try dsimp only at hSw
        go_simp
        with_reducible rfl
      try simp only [Act.put, List.setIfInBounds_toArray, List.set_cons_zero, List.set_cons_succ]
      refine wpAnyH_take (i := 3) (oi := { dst := some 85, op := Op.load 27 (Operand.tmp 5), type := 27, pos := "law.go:60", after := #[{ on := 2, ground := Ground.guard }], guard := some (2, true) }) (v := _) rfl (by kernel_rfl) (by kernel_rfl) (by kernel_rfl) (fun _ _ _ h => h) (yieldsIf_load_mid (by rfl) _ _ rfl gm 0 rfl (mcs (fnL lb) n) _ (fun v hv => Mp.range ((fun v (hv : PlI w gm gs gw gh n lb lh v) => hv.m) v hv)) Tryd.underlying27 rfl (infoMcs _ _)) (by assumption) ?_
      try simp only [Act.put, List.setIfInBounds_toArray, List.set_cons_zero, List.set_cons_succ]
      refine wpAnyH_take (i := 4) (oi := { dst := some 86, op := Op.move (Operand.tmp 7), type := 33, pos := "law.go:60", after := #[{ on := 2, ground := Ground.guard }], guard := some (2, true) }) (v := ?_) rfl (by kernel_rfl) (by kernel_rfl) (by kernel_rfl) (fun _ _ _ h => h) (Or.inl ⟨by rfl, ?_⟩) (by assumption) ?_
      rotate_left
      · intro v hSw
        try dsimp only at hSw
        go_simp
        with_reducible rfl
      try simp only [Act.put, List.setIfInBounds_toArray, List.set_cons_zero, List.set_cons_succ]
      refine wpAnyH_ready (rs := [5]) (by kernel_rfl) (by simp) ?_
      refine AllReadyH.cons (o := { dst := some 87, op := Op.call { callee := Callee.value (Operand.func 11), args := #[Operand.tmp 85, Operand.tmp 86], argTypes := #[27, 33] }, type := 4, pos := "law.go:60", after := #[{ on := 3, ground := Ground.data }, { on := 4, ground := Ground.data }, { on := 2, ground := Ground.chain }, { on := 2, ground := Ground.guard }], guard := some (2, true) }) rfl (fun K hK => ?_) AllReadyH.nil
      go_simp
      have hs := same_any gw cw lb _ hHeld.b (by rw [HLB.out]; exact h1) (by rw [HLB.out]; exact h2) (HT.out.kp hHeld.kp (fun h => h))
      rw [HLB.out] at hs
      refine hs.mono ?_
      clear hs
      rintro e w5 ⟨rfl, k5⟩
      go_wp2_with fail
      refine hK.out _ _ (hHeld.still k5) (fun hHeld5 => ?_)
      clear hK K
      try simp only [Act.put, List.setIfInBounds_toArray, List.set_cons_zero, List.set_cons_succ]
      refine wpAnyH_take (i := 6) (oi := { dst := some 88, op := Op.pick (Operand.tmp 84) (Operand.tmp 87) (Operand.const (Value.bool false)), type := 4, pos := "law.go:60", after := #[{ on := 2, ground := Ground.data }, { on := 5, ground := Ground.data }], guard := none }) (v := ?_) rfl (by kernel_rfl) (by kernel_rfl) (by kernel_rfl) (fun _ _ _ h => h) (Or.inl ⟨by rfl, ?_⟩) (by assumption) ?_
      rotate_left
      · intro v hSw
        try dsimp only at hSw
        go_simp
        with_reducible rfl
      try simp only [Act.put, List.setIfInBounds_toArray, List.set_cons_zero, List.set_cons_succ]
      refine wpAnyH_take (i := 7) (oi := { dst := some 89, op := Op.move (Operand.tmp 88), type := 4, pos := "law.go:60", after := #[{ on := 6, ground := Ground.data }, { on := 5, ground := Ground.chain }], guard := none }) (v := ?_) rfl (by kernel_rfl) (by kernel_rfl) (by kernel_rfl) (fun _ _ _ h => h) (Or.inl ⟨by rfl, ?_⟩) (by assumption) ?_
      rotate_left
      · intro v hSw
        try dsimp only at hSw
        go_simp
        with_reducible rfl
      try simp only [Act.put, List.setIfInBounds_toArray, List.set_cons_zero, List.set_cons_succ]
      refine wpAnyH_take (i := 8) (oi := { dst := some 90, op := Op.load 27 (Operand.tmp 5), type := 27, pos := "law.go:60", after := #[{ on := 7, ground := Ground.guard }], guard := some (7, true) }) (v := _) rfl (by kernel_rfl) (by kernel_rfl) (by kernel_rfl) (fun _ _ _ h => h) (yieldsIf_load_mid (by rfl) _ _ rfl gm 0 rfl (mcs (fnL lb) n) _ (fun v hv => Mp.range ((fun v (hv : PlI w gm gs gw gh n lb lh v) => hv.m) v hv)) Tryd.underlying27 rfl (infoMcs _ _)) (by assumption) ?_
      try simp only [Act.put, List.setIfInBounds_toArray, List.set_cons_zero, List.set_cons_succ]
      refine wpAnyH_take (i := 11) (oi := { dst := some 93, op := Op.move (Operand.tmp 7), type := 33, pos := "law.go:60", after := #[{ on := 7, ground := Ground.guard }], guard := some (7, true) }) (v := ?_) rfl (by kernel_rfl) (by kernel_rfl) (by kernel_rfl) (fun _ _ _ h => h) (Or.inl ⟨by rfl, ?_⟩) (by assumption) ?_
      rotate_left
      · intro v hSw
        try dsimp only at hSw
        go_simp
        with_reducible rfl
      try simp only [Act.put, List.setIfInBounds_toArray, List.set_cons_zero, List.set_cons_succ]
      refine wpAnyH_ready (rs := [9]) (by kernel_rfl) (by simp) ?_
      refine AllReadyH.cons (o := { dst := some 91, op := Op.call { callee := Callee.value (Operand.func 12), args := #[Operand.tmp 90], argTypes := #[27] }, type := 39, pos := "law.go:60", after := #[{ on := 8, ground := Ground.data }, { on := 7, ground := Ground.chain }, { on := 7, ground := Ground.guard }], guard := some (7, true) }) rfl (fun K hK => ?_) AllReadyH.nil
      go_simp
      refine (bytes_any (fnL lb) n _ HWF.out).mono ?_
      rintro e w6 ⟨gb, rfl, hnb, k6⟩
      have NB := Lib.hid hnb
      have ht := hnb.rd.text (P := Tryd.prog) 39 9 5 512 Tryd.underlying39 Tryd.underlying5 Tryd.underlying9
      rw [pageL_length, HSP.out] at ht
      clear hnb
      go_wp2_with fail
      refine hK.out _ _ (hHeld5.still k6) (fun hHeld6 => ?_)
      clear hK K
      try simp only [Act.put, List.setIfInBounds_toArray, List.set_cons_zero, List.set_cons_succ]
      refine wpAnyH_ready (rs := [10, 12]) (by kernel_rfl) (by simp) ?_
      refine AllReadyH.cons (o := { dst := some 92, op := Op.convert 39 9 (Operand.tmp 91), type := 9, pos := "law.go:60", after := #[{ on := 9, ground := Ground.data }, { on := 7, ground := Ground.guard }], guard := some (7, true) }) rfl (fun K hK => ?_) (AllReadyH.cons (o := { dst := some 94, op := Op.call { callee := Callee.value (Operand.func 13), args := #[Operand.tmp 93], argTypes := #[33] }, type := 9, pos := "law.go:60", after := #[{ on := 11, ground := Ground.data }, { on := 9, ground := Ground.chain }, { on := 7, ground := Ground.guard }], guard := some (7, true) }) rfl (fun K hK => ?_) AllReadyH.nil)
      · clear hHeld hHeld5
        go_simp
        refine hK.out _ _ (hHeld6) (fun hHeld7 => ?_)
        clear hK K
        try simp only [Act.put, List.setIfInBounds_toArray, List.set_cons_zero, List.set_cons_succ]
        refine wpAnyH_ready (rs := [12]) (by kernel_rfl) (by simp) ?_
        refine AllReadyH.cons (o := { dst := some 94, op := Op.call { callee := Callee.value (Operand.func 13), args := #[Operand.tmp 93], argTypes := #[33] }, type := 9, pos := "law.go:60", after := #[{ on := 11, ground := Ground.data }, { on := 9, ground := Ground.chain }, { on := 7, ground := Ground.guard }], guard := some (7, true) }) rfl (fun K hK => ?_) AllReadyH.nil
        go_simp
        have hs := rbytes_any gw cw lb _ hHeld7.b (by rw [HLB.out]; exact h2)
        rw [HLB.out, HSP.out] at hs
        refine hs.mono ?_
        clear hs
        rintro e w7 ⟨rfl, k7⟩
        go_wp2_with fail
        refine hK.out _ _ (hHeld7.still k7) (fun hHeld8 => ?_)
        clear hK K
        try simp only [Act.put, List.setIfInBounds_toArray, List.set_cons_zero, List.set_cons_succ]
        refine wpAnyH_take (i := 13) (oi := { dst := some 95, op := Op.binOp BinOp.eql 9 (Operand.tmp 92) (Operand.tmp 94) 9, type := 4, pos := "law.go:60", after := #[{ on := 10, ground := Ground.data }, { on := 12, ground := Ground.data }, { on := 7, ground := Ground.guard }], guard := some (7, true) }) (v := ?_) rfl (by kernel_rfl) (by kernel_rfl) (by kernel_rfl) (fun _ _ _ h => h) (Or.inl ⟨by rfl, ?_⟩) (by assumption) ?_
        rotate_left
        · intro v hSw
          try dsimp only at hSw
          go_simp
          with_reducible rfl
        try simp only [Act.put, List.setIfInBounds_toArray, List.set_cons_zero, List.set_cons_succ]
        refine wpAnyH_take (i := 14) (oi := { dst := some 96, op := Op.pick (Operand.tmp 89) (Operand.tmp 95) (Operand.const (Value.bool false)), type := 4, pos := "law.go:60", after := #[{ on := 7, ground := Ground.data }, { on := 13, ground := Ground.data }], guard := none }) (v := ?_) rfl (by kernel_rfl) (by kernel_rfl) (by kernel_rfl) (fun _ _ _ h => h) (Or.inl ⟨by rfl, ?_⟩) (by assumption) ?_
        rotate_left
        · intro v hSw
          try dsimp only at hSw
          go_simp
          with_reducible rfl
        try simp only [Act.put, List.setIfInBounds_toArray, List.set_cons_zero, List.set_cons_succ]
        refine wpAnyH_take (i := 15) (oi := { dst := some 97, op := Op.move (Operand.tmp 96), type := 4, pos := "law.go:60", after := #[{ on := 14, ground := Ground.data }, { on := 12, ground := Ground.chain }], guard := none }) (v := ?_) rfl (by kernel_rfl) (by kernel_rfl) (by kernel_rfl) (fun _ _ _ h => h) (Or.inl ⟨by rfl, ?_⟩) (by assumption) ?_
        rotate_left
        · intro v hSw
          try dsimp only at hSw
          go_simp
          with_reducible rfl
        try simp only [Act.put, List.setIfInBounds_toArray, List.set_cons_zero, List.set_cons_succ]
        refine wpAnyH_take (i := 16) (oi := { dst := some 98, op := Op.load 27 (Operand.tmp 8), type := 27, pos := "law.go:60", after := #[{ on := 15, ground := Ground.guard }], guard := some (15, true) }) (v := _) rfl (by kernel_rfl) (by kernel_rfl) (by kernel_rfl) (fun _ _ _ h => h) (yieldsIf_load_mid (by rfl) _ _ rfl gs 0 rfl (mcs (fnL lh) n) _ (fun v hv => Mp.range ((fun v (hv : PlI w gm gs gw gh n lb lh v) => hv.s) v hv)) Tryd.underlying27 rfl (infoMcs _ _)) (by assumption) ?_
        try simp only [Act.put, List.setIfInBounds_toArray, List.set_cons_zero, List.set_cons_succ]
        refine wpAnyH_take (i := 17) (oi := { dst := some 99, op := Op.move (Operand.tmp 9), type := 33, pos := "law.go:60", after := #[{ on := 15, ground := Ground.guard }], guard := some (15, true) }) (v := ?_) rfl (by kernel_rfl) (by kernel_rfl) (by kernel_rfl) (fun _ _ _ h => h) (Or.inl ⟨by rfl, ?_⟩) (by assumption) ?_
        rotate_left
        · intro v hSw
          try dsimp only at hSw
          go_simp
          with_reducible rfl
        try simp only [Act.put, List.setIfInBounds_toArray, List.set_cons_zero, List.set_cons_succ]
        refine wpAnyH_ready (rs := [18]) (by kernel_rfl) (by simp) ?_
        refine AllReadyH.cons (o := { dst := some 100, op := Op.call { callee := Callee.value (Operand.func 11), args := #[Operand.tmp 98, Operand.tmp 99], argTypes := #[27, 33] }, type := 4, pos := "law.go:60", after := #[{ on := 16, ground := Ground.data }, { on := 17, ground := Ground.data }, { on := 15, ground := Ground.chain }, { on := 15, ground := Ground.guard }], guard := some (15, true) }) rfl (fun K hK => ?_) AllReadyH.nil
        go_simp
        have hs := same_any gh ch lh _ hHeld8.h (by rw [HLH.out]; exact h1) (by rw [HLH.out]; exact h2) (HT.out.kp hHeld8.kp (fun h => h))
        rw [HLH.out] at hs
        refine hs.mono ?_
        clear hs
        rintro e w8 ⟨rfl, k8⟩
        go_wp2_with fail
        refine hK.out _ _ (hHeld8.still k8) (fun hHeld9 => ?_)
        clear hK K
        try simp only [Act.put, List.setIfInBounds_toArray, List.set_cons_zero, List.set_cons_succ]
        refine wpAnyH_take (i := 19) (oi := { dst := some 101, op := Op.pick (Operand.tmp 97) (Operand.tmp 100) (Operand.const (Value.bool false)), type := 4, pos := "law.go:60", after := #[{ on := 15, ground := Ground.data }, { on := 18, ground := Ground.data }], guard := none }) (v := ?_) rfl (by kernel_rfl) (by kernel_rfl) (by kernel_rfl) (fun _ _ _ h => h) (Or.inl ⟨by rfl, ?_⟩) (by assumption) ?_
        rotate_left
        · intro v hSw
          try dsimp only at hSw
          go_simp
          with_reducible rfl
        try simp only [Act.put, List.setIfInBounds_toArray, List.set_cons_zero, List.set_cons_succ]
        refine wpAnyH_take (i := 20) (oi := { dst := some 102, op := Op.move (Operand.tmp 101), type := 4, pos := "law.go:60", after := #[{ on := 19, ground := Ground.data }, { on := 18, ground := Ground.chain }], guard := none }) (v := ?_) rfl (by kernel_rfl) (by kernel_rfl) (by kernel_rfl) (fun _ _ _ h => h) (Or.inl ⟨by rfl, ?_⟩) (by assumption) ?_
        rotate_left
        · intro v hSw
          try dsimp only at hSw
          go_simp
          with_reducible rfl
        try simp only [Act.put, List.setIfInBounds_toArray, List.set_cons_zero, List.set_cons_succ]
        refine wpAnyH_ready (rs := [21]) (by kernel_rfl) (by simp) ?_
        refine AllReadyH.cons (o := { dst := some 103, op := Op.call { callee := Callee.value (Operand.func 6), args := #[], argTypes := #[] }, type := 4, pos := "law.go:60", after := #[{ on := 20, ground := Ground.chain }, { on := 20, ground := Ground.guard }], guard := some (20, true) }) rfl (fun K hK => ?_) AllReadyH.nil
        go_simp
        refine (wakes_true _ (HT.out.kp hHeld9.kp (fun h => h))).mono ?_
        rintro e w9 ⟨rfl, k9⟩
        go_wp2_with fail
        refine hK.out _ _ (hHeld9.still k9) (fun hHeld10 => ?_)
        clear hK K
        try simp only [Act.put, List.setIfInBounds_toArray, List.set_cons_zero, List.set_cons_succ]
        refine wpAnyH_take (i := 22) (oi := { dst := some 104, op := Op.pick (Operand.tmp 102) (Operand.tmp 103) (Operand.const (Value.bool false)), type := 4, pos := "law.go:60", after := #[{ on := 20, ground := Ground.data }, { on := 21, ground := Ground.data }], guard := none }) (v := ?_) rfl (by kernel_rfl) (by kernel_rfl) (by kernel_rfl) (fun _ _ _ h => h) (Or.inl ⟨by rfl, ?_⟩) (by assumption) ?_
        rotate_left
        · intro v hSw
          try dsimp only at hSw
          go_simp
          with_reducible rfl
        try simp only [Act.put, List.setIfInBounds_toArray, List.set_cons_zero, List.set_cons_succ]
        refine wpAnyH_take (i := 23) (oi := { dst := some 4, op := Op.assign (Operand.tmp 104), type := 4, pos := "law.go:60", after := #[{ on := 22, ground := Ground.data }, { on := 21, ground := Ground.chain }, { on := 0, ground := Ground.phase }, { on := 1, ground := Ground.phase }, { on := 2, ground := Ground.phase }, { on := 3, ground := Ground.phase }, { on := 4, ground := Ground.phase }, { on := 5, ground := Ground.phase }, { on := 6, ground := Ground.phase }, { on := 7, ground := Ground.phase }, { on := 8, ground := Ground.phase }, { on := 9, ground := Ground.phase }, { on := 10, ground := Ground.phase }, { on := 11, ground := Ground.phase }, { on := 12, ground := Ground.phase }, { on := 13, ground := Ground.phase }, { on := 14, ground := Ground.phase }, { on := 15, ground := Ground.phase }, { on := 16, ground := Ground.phase }, { on := 17, ground := Ground.phase }, { on := 18, ground := Ground.phase }, { on := 19, ground := Ground.phase }, { on := 20, ground := Ground.phase }, { on := 21, ground := Ground.phase }, { on := 22, ground := Ground.phase }], guard := none }) (v := ?_) rfl (by kernel_rfl) (by kernel_rfl) (by kernel_rfl) (fun _ _ _ h => h) (Or.inl ⟨by rfl, ?_⟩) (by assumption) ?_
        rotate_left
        · intro v hSw
          try dsimp only at hSw
          go_simp
          with_reducible rfl
        try simp only [Act.put, List.setIfInBounds_toArray, List.set_cons_zero, List.set_cons_succ]
        refine wpAnyH_done (by kernel_rfl) ?_ _
        go_wp2_with fail
        go_ret
        exact ⟨rfl, hHeld10.kp⟩
      · clear hHeld hHeld5 ht
        go_simp
        have hs := rbytes_any gw cw lb _ hHeld6.b (by rw [HLB.out]; exact h2)
        rw [HLB.out, HSP.out] at hs
        refine hs.mono ?_
        clear hs
        rintro e w7 ⟨rfl, k7⟩
        go_wp2_with fail
        refine hK.out _ _ (hHeld6.still k7) (fun hHeld11 => ?_)
        clear hK K
        try simp only [Act.put, List.setIfInBounds_toArray, List.set_cons_zero, List.set_cons_succ]
        refine wpAnyH_ready (rs := [10]) (by kernel_rfl) (by simp) ?_
        refine AllReadyH.cons (o := { dst := some 92, op := Op.convert 39 9 (Operand.tmp 91), type := 9, pos := "law.go:60", after := #[{ on := 9, ground := Ground.data }, { on := 7, ground := Ground.guard }], guard := some (7, true) }) rfl (fun K hK => ?_) AllReadyH.nil
        have ht := (show NewB _ w7 gb (pageL (fnL lb)) from ⟨NB.out.1, NB.out.2.kp k7 (fun h => h)⟩).rd.text (P := Tryd.prog) 39 9 5 512 Tryd.underlying39 Tryd.underlying5 Tryd.underlying9
        rw [pageL_length, HSP.out] at ht
        go_simp
        refine hK.out _ _ (hHeld11) (fun hHeld12 => ?_)
        clear hK K
        try simp only [Act.put, List.setIfInBounds_toArray, List.set_cons_zero, List.set_cons_succ]
        refine wpAnyH_take (i := 13) (oi := { dst := some 95, op := Op.binOp BinOp.eql 9 (Operand.tmp 92) (Operand.tmp 94) 9, type := 4, pos := "law.go:60", after := #[{ on := 10, ground := Ground.data }, { on := 12, ground := Ground.data }, { on := 7, ground := Ground.guard }], guard := some (7, true) }) (v := ?_) rfl (by kernel_rfl) (by kernel_rfl) (by kernel_rfl) (fun _ _ _ h => h) (Or.inl ⟨by rfl, ?_⟩) (by assumption) ?_
        rotate_left
        · intro v hSw
          try dsimp only at hSw
          go_simp
          with_reducible rfl
        try simp only [Act.put, List.setIfInBounds_toArray, List.set_cons_zero, List.set_cons_succ]
        refine wpAnyH_take (i := 14) (oi := { dst := some 96, op := Op.pick (Operand.tmp 89) (Operand.tmp 95) (Operand.const (Value.bool false)), type := 4, pos := "law.go:60", after := #[{ on := 7, ground := Ground.data }, { on := 13, ground := Ground.data }], guard := none }) (v := ?_) rfl (by kernel_rfl) (by kernel_rfl) (by kernel_rfl) (fun _ _ _ h => h) (Or.inl ⟨by rfl, ?_⟩) (by assumption) ?_
        rotate_left
        · intro v hSw
          try dsimp only at hSw
          go_simp
          with_reducible rfl
        try simp only [Act.put, List.setIfInBounds_toArray, List.set_cons_zero, List.set_cons_succ]
        refine wpAnyH_take (i := 15) (oi := { dst := some 97, op := Op.move (Operand.tmp 96), type := 4, pos := "law.go:60", after := #[{ on := 14, ground := Ground.data }, { on := 12, ground := Ground.chain }], guard := none }) (v := ?_) rfl (by kernel_rfl) (by kernel_rfl) (by kernel_rfl) (fun _ _ _ h => h) (Or.inl ⟨by rfl, ?_⟩) (by assumption) ?_
        rotate_left
        · intro v hSw
          try dsimp only at hSw
          go_simp
          with_reducible rfl
        try simp only [Act.put, List.setIfInBounds_toArray, List.set_cons_zero, List.set_cons_succ]
        refine wpAnyH_take (i := 16) (oi := { dst := some 98, op := Op.load 27 (Operand.tmp 8), type := 27, pos := "law.go:60", after := #[{ on := 15, ground := Ground.guard }], guard := some (15, true) }) (v := _) rfl (by kernel_rfl) (by kernel_rfl) (by kernel_rfl) (fun _ _ _ h => h) (yieldsIf_load_mid (by rfl) _ _ rfl gs 0 rfl (mcs (fnL lh) n) _ (fun v hv => Mp.range ((fun v (hv : PlI w gm gs gw gh n lb lh v) => hv.s) v hv)) Tryd.underlying27 rfl (infoMcs _ _)) (by assumption) ?_
        try simp only [Act.put, List.setIfInBounds_toArray, List.set_cons_zero, List.set_cons_succ]
        refine wpAnyH_take (i := 17) (oi := { dst := some 99, op := Op.move (Operand.tmp 9), type := 33, pos := "law.go:60", after := #[{ on := 15, ground := Ground.guard }], guard := some (15, true) }) (v := ?_) rfl (by kernel_rfl) (by kernel_rfl) (by kernel_rfl) (fun _ _ _ h => h) (Or.inl ⟨by rfl, ?_⟩) (by assumption) ?_
        rotate_left
        · intro v hSw
          try dsimp only at hSw
          go_simp
          with_reducible rfl
        try simp only [Act.put, List.setIfInBounds_toArray, List.set_cons_zero, List.set_cons_succ]
        refine wpAnyH_ready (rs := [18]) (by kernel_rfl) (by simp) ?_
        refine AllReadyH.cons (o := { dst := some 100, op := Op.call { callee := Callee.value (Operand.func 11), args := #[Operand.tmp 98, Operand.tmp 99], argTypes := #[27, 33] }, type := 4, pos := "law.go:60", after := #[{ on := 16, ground := Ground.data }, { on := 17, ground := Ground.data }, { on := 15, ground := Ground.chain }, { on := 15, ground := Ground.guard }], guard := some (15, true) }) rfl (fun K hK => ?_) AllReadyH.nil
        go_simp
        have hs := same_any gh ch lh _ hHeld12.h (by rw [HLH.out]; exact h1) (by rw [HLH.out]; exact h2) (HT.out.kp hHeld12.kp (fun h => h))
        rw [HLH.out] at hs
        refine hs.mono ?_
        clear hs
        rintro e w8 ⟨rfl, k8⟩
        go_wp2_with fail
        refine hK.out _ _ (hHeld12.still k8) (fun hHeld13 => ?_)
        clear hK K
        try simp only [Act.put, List.setIfInBounds_toArray, List.set_cons_zero, List.set_cons_succ]
        refine wpAnyH_take (i := 19) (oi := { dst := some 101, op := Op.pick (Operand.tmp 97) (Operand.tmp 100) (Operand.const (Value.bool false)), type := 4, pos := "law.go:60", after := #[{ on := 15, ground := Ground.data }, { on := 18, ground := Ground.data }], guard := none }) (v := ?_) rfl (by kernel_rfl) (by kernel_rfl) (by kernel_rfl) (fun _ _ _ h => h) (Or.inl ⟨by rfl, ?_⟩) (by assumption) ?_
        rotate_left
        · intro v hSw
          try dsimp only at hSw
          go_simp
          with_reducible rfl
        try simp only [Act.put, List.setIfInBounds_toArray, List.set_cons_zero, List.set_cons_succ]
        refine wpAnyH_take (i := 20) (oi := { dst := some 102, op := Op.move (Operand.tmp 101), type := 4, pos := "law.go:60", after := #[{ on := 19, ground := Ground.data }, { on := 18, ground := Ground.chain }], guard := none }) (v := ?_) rfl (by kernel_rfl) (by kernel_rfl) (by kernel_rfl) (fun _ _ _ h => h) (Or.inl ⟨by rfl, ?_⟩) (by assumption) ?_
        rotate_left
        · intro v hSw
          try dsimp only at hSw
          go_simp
          with_reducible rfl
        try simp only [Act.put, List.setIfInBounds_toArray, List.set_cons_zero, List.set_cons_succ]
        refine wpAnyH_ready (rs := [21]) (by kernel_rfl) (by simp) ?_
        refine AllReadyH.cons (o := { dst := some 103, op := Op.call { callee := Callee.value (Operand.func 6), args := #[], argTypes := #[] }, type := 4, pos := "law.go:60", after := #[{ on := 20, ground := Ground.chain }, { on := 20, ground := Ground.guard }], guard := some (20, true) }) rfl (fun K hK => ?_) AllReadyH.nil
        go_simp
        refine (wakes_true _ (HT.out.kp hHeld13.kp (fun h => h))).mono ?_
        rintro e w9 ⟨rfl, k9⟩
        go_wp2_with fail
        refine hK.out _ _ (hHeld13.still k9) (fun hHeld14 => ?_)
        clear hK K
        try simp only [Act.put, List.setIfInBounds_toArray, List.set_cons_zero, List.set_cons_succ]
        refine wpAnyH_take (i := 22) (oi := { dst := some 104, op := Op.pick (Operand.tmp 102) (Operand.tmp 103) (Operand.const (Value.bool false)), type := 4, pos := "law.go:60", after := #[{ on := 20, ground := Ground.data }, { on := 21, ground := Ground.data }], guard := none }) (v := ?_) rfl (by kernel_rfl) (by kernel_rfl) (by kernel_rfl) (fun _ _ _ h => h) (Or.inl ⟨by rfl, ?_⟩) (by assumption) ?_
        rotate_left
        · intro v hSw
          try dsimp only at hSw
          go_simp
          with_reducible rfl
        try simp only [Act.put, List.setIfInBounds_toArray, List.set_cons_zero, List.set_cons_succ]
        refine wpAnyH_take (i := 23) (oi := { dst := some 4, op := Op.assign (Operand.tmp 104), type := 4, pos := "law.go:60", after := #[{ on := 22, ground := Ground.data }, { on := 21, ground := Ground.chain }, { on := 0, ground := Ground.phase }, { on := 1, ground := Ground.phase }, { on := 2, ground := Ground.phase }, { on := 3, ground := Ground.phase }, { on := 4, ground := Ground.phase }, { on := 5, ground := Ground.phase }, { on := 6, ground := Ground.phase }, { on := 7, ground := Ground.phase }, { on := 8, ground := Ground.phase }, { on := 9, ground := Ground.phase }, { on := 10, ground := Ground.phase }, { on := 11, ground := Ground.phase }, { on := 12, ground := Ground.phase }, { on := 13, ground := Ground.phase }, { on := 14, ground := Ground.phase }, { on := 15, ground := Ground.phase }, { on := 16, ground := Ground.phase }, { on := 17, ground := Ground.phase }, { on := 18, ground := Ground.phase }, { on := 19, ground := Ground.phase }, { on := 20, ground := Ground.phase }, { on := 21, ground := Ground.phase }, { on := 22, ground := Ground.phase }], guard := none }) (v := ?_) rfl (by kernel_rfl) (by kernel_rfl) (by kernel_rfl) (fun _ _ _ h => h) (Or.inl ⟨by rfl, ?_⟩) (by assumption) ?_
        rotate_left
        · intro v hSw
          try dsimp only at hSw
          go_simp
          with_reducible rfl
        try simp only [Act.put, List.setIfInBounds_toArray, List.set_cons_zero, List.set_cons_succ]
        refine wpAnyH_done (by kernel_rfl) ?_ _
        go_wp2_with fail
        go_ret
        exact ⟨rfl, hHeld14.kp⟩
end Go.Proofs.YtlhfdoaknfgemaaDoor
