/- Any acts: a disk answers, and is, what the document says; a copy from the midst stays as it was: the walk. Conditions: 1 to 30 sectors, at most 80 acts, texts of at most 40 bytes. -/
import Derived.Test.YtbdiebkfkmjjiaaDkPlayA
namespace Go.Proofs.Ytbdiebkfkmjjiaa
open Go.RowKit Go.Maps

set_option maxRecDepth 100000 in
set_option maxHeartbeats 8000000 in
theorem plays_main (n : Nat) (h1 : 1 ≤ n) (h2 : n ≤ 30) (A : Option Addr) (l : List Ac) (c : Nat) (w : World) (h : Acs w w.heap.size A l) (hc : l.length ≤ c) (hm : c ≤ maxLen) (hg : greatA l = false) :
    Calls Try.prog 3 #[.int .i64 n, .slice A l.length c] w fun e w' => e = .returned (.bool true) ∧ Kp (fun k => w.heap.size ≤ k) w w' := by
  have hgr := great_any h c hc hm
  rw [hg] at hgr
  obtain ⟨hl80, hk40⟩ := not_great hg
  have H := Lib.hid h
  clear h hg hm hk40
  go_enter Try.func3, Try.ntmps3
  go_wp2_with fail
  refine hgr.mono ?_
  rintro e w' ⟨rfl, rfl⟩
  clear hgr
  go_wp2_with fail
  refine (new_any n h1 (by omega) w).mono ?_
  rintro e w1 ⟨b, rfl, d1, q1⟩
  have D1 := Lib.hid d1
  have Q1 := Lib.hid q1
  clear d1 q1
  go_wp2_with fail
  refine (rnew_any w1 n (by omega)).mono ?_
  rintro e w2 ⟨vo, rfl, r2, q2⟩
  obtain ⟨hc1, hc2⟩ := r2.c1
  obtain ⟨D, hD⟩ : ∃ D, D = newDm n := ⟨_, rfl⟩
  rw [← hD] at r2 D1 ⊢
  have hw0 : D.wait.length ≤ 0 := by rw [hD]; exact Nat.le_refl _
  have D2 := Lib.hid (D1.out.still q2)
  have R2 := Lib.hid r2
  have Q2 := Lib.hid (Q1.out.trans q2)
  clear r2 q2 D1 Q1 hD
  go_upto_region 9 with (first | (refine wpList_store_box rfl 33 (.tmp 7) (.tmp 53) rfl w2.heap.size (rcs D vo (.slice none 0 0)).toList rfl rfl (Box.new w2 33 #[.slice none 0 0, .slice none 0 0, .bool false, .int .i64 0, .string ⟨#[]⟩, .int .u64 0]) rfl infoRef (rcs_one _ _ _ hc1 hc2) ?_; intro W hbW hkW) | fail)
  have hP : P0 w.heap.size w W w2.heap.size b (rcs D vo (.slice none 0 0)) D vo (.slice none 0 0) := by
    have k0 := (Kp.refl (fun _ => False) w2).alloc (.cells #[.slice none 0 0, .slice none 0 0, .bool false, .int .i64 0, .string ⟨#[]⟩, .int .u64 0] 33)
    have kW : Kp (fun _ => False) w2 W := k0.trans_new hkW (fun q e => .inl (by omega))
    exact ⟨hbW, R2.out.still kW, D2.out.still kW, Q2.out.size, (Q2.out.trans kW).of_false, Nat.le_refl _⟩
  have P := Lib.hid hP
  clear hP hbW hkW D2 R2 Q2
  generalize w2.heap.size = g7 at *
  try simp only [Act.put]
  go_cut [8, 9] (fun p q wx => ∃ c g9 : Nat, p = .pointer (some ⟨c, 0, none⟩) ∧ q = .pointer (some ⟨g9, 0, none⟩) ∧ Pm w.heap.size w wx g7 b c (rcs D vo (.slice none 0 0)) D D vo (.slice none 0 0) 0 ∧ Nine w.heap.size wx g7 g9 (rcs D vo (.slice none 0 0)) D vo (.slice none 0 0))
  case first =>
    refine wp_region_held_drew (S := fun v => v.cell? ⟨g7, 0, none⟩ = some (vo) ∧ v.cell? ⟨g7, 1, none⟩ = some (.slice none 0 0) ∧ v.cell? ⟨g7, 2, none⟩ = some (.bool (!D.power)) ∧ v.cell? ⟨g7, 3, none⟩ = some (.int .i64 (leftZ D)) ∧ v.cell? ⟨g7, 4, none⟩ = some (.string ⟨D.keep.toArray⟩) ∧ v.cell? ⟨g7, 5, none⟩ = some (.int .u64 D.acts)) (by kernel_rfl) (rcs_cells P.out.b7) (fun hHeld => ?_)
    refine wpAnyH_take (i := 0) (oi := { dst := some 54, op := Op.move (Operand.tmp 5), type := 25, pos := "law.go:117", after := #[], guard := none }) (v := ?_) rfl (by kernel_rfl) (by kernel_rfl) (by kernel_rfl) (fun _ _ _ h => h) (Or.inl ⟨by rfl, ?_⟩) (by assumption) ?_
    rotate_left
    · intro v hSw
      try dsimp only at hSw
      go_simp
      with_reducible rfl
    try simp only [Act.put, List.setIfInBounds_toArray, List.set_cons_zero, List.set_cons_succ]
    refine wpAnyH_take (i := 2) (oi := { dst := some 56, op := Op.load 33 (Operand.tmp 7), type := 33, pos := "law.go:117", after := #[{ on := 4, ground := Ground.gcOnly Departure.lateStores }], guard := none }) (v := ?_) rfl (by kernel_rfl) (by kernel_rfl) (by kernel_rfl) (fun _ _ _ h => h) (Or.inl ⟨by rfl, ?_⟩) (by assumption) ?_
    rotate_left
    · intro v hSw
      try dsimp only at hSw
      go_simp
      with_reducible rfl
    try simp only [Act.put, List.setIfInBounds_toArray, List.set_cons_zero, List.set_cons_succ]
    refine wpAnyH_ready (rs := [1, 3]) (by kernel_rfl) (by simp) ?_
    refine AllReadyH.cons (o := { dst := some 55, op := Op.call { callee := Callee.value (Operand.func 10), args := #[Operand.tmp 54], argTypes := #[25] }, type := 25, pos := "law.go:117", after := #[{ on := 0, ground := Ground.data }], guard := none }) rfl (fun K hK => ?_) (AllReadyH.cons (o := { dst := some 9, op := Op.alloc 33, type := 0, pos := "law.go:117", after := #[], guard := none }) rfl (fun K hK => ?_) AllReadyH.nil)
    · go_simp
      refine ((P.out.still (Kp.refl _ W).drew).copy (k := 0) hw0).mono ?_
      rintro e w4 ⟨c, rfl, hp, hk⟩
      have P4 := Lib.hid hp
      clear hp hk
      go_wp2_with fail
      refine hK.out _ _ (rcs_cells P4.out.b7) (fun hHeld21 => ?_)
      clear hK K
      try simp only [Act.put, List.setIfInBounds_toArray, List.set_cons_zero, List.set_cons_succ]
      refine wpAnyH_ready (rs := [3]) (by kernel_rfl) (by simp) ?_
      refine AllReadyH.cons (o := { dst := some 9, op := Op.alloc 33, type := 0, pos := "law.go:117", after := #[], guard := none }) rfl (fun K hK => ?_) AllReadyH.nil
      go_simp
      have P5 := Lib.hid (P4.out.still ((Kp.refl _ w4).alloc (.cells #[.slice none 0 0, .slice none 0 0, .bool false, .int .i64 0, .string ⟨#[]⟩, .int .u64 0] 33)))
      have N5 := Lib.hid (Box.new w4 33 #[.slice none 0 0, .slice none 0 0, .bool false, .int .i64 0, .string ⟨#[]⟩, .int .u64 0])
      refine hK.out _ _ (rcs_cells P5.out.b7) (fun hHeld22 => ?_)
      clear hK K
      try simp only [Act.put, List.setIfInBounds_toArray, List.set_cons_zero, List.set_cons_succ]
      refine wpAnyH_take (i := 4) (oi := { dst := some 8, op := Op.assign (Operand.tmp 55), type := 25, pos := "law.go:117", after := #[{ on := 1, ground := Ground.data }, { on := 1, ground := Ground.chain }, { on := 0, ground := Ground.phase }, { on := 1, ground := Ground.phase }, { on := 2, ground := Ground.textOnly Departure.lateStores }, { on := 3, ground := Ground.phase }], guard := none }) (v := ?_) rfl (by kernel_rfl) (by kernel_rfl) (by kernel_rfl) (fun _ _ _ h => h) (Or.inl ⟨by rfl, ?_⟩) (by assumption) ?_
      rotate_left
      · intro v hSw
        try dsimp only at hSw
        go_simp
        with_reducible rfl
      try simp only [Act.put, List.setIfInBounds_toArray, List.set_cons_zero, List.set_cons_succ]
      refine wpAnyH_ready (rs := [5]) (by kernel_rfl) (by simp) ?_
      refine AllReadyH.cons (o := { dst := none, op := Op.store 33 (Operand.tmp 9) (Operand.tmp 56), type := 0, pos := "law.go:117", after := #[{ on := 3, ground := Ground.data }, { on := 2, ground := Ground.data }, { on := 4, ground := Ground.chain }, { on := 0, ground := Ground.phase }, { on := 1, ground := Ground.phase }, { on := 2, ground := Ground.phase }, { on := 3, ground := Ground.phase }, { on := 4, ground := Ground.phase }], guard := none }) rfl (fun K hK => ?_) AllReadyH.nil
      rw [if_pos (by rfl)]
      refine wp_store_box 33 (.tmp 9) (.tmp 56) rfl w4.heap.size (rcs D vo (.slice none 0 0)).toList rfl rfl N5.out rfl infoRef (rcs_one _ _ _ hc1 hc2) ?_
      intro w6 hb6 hk6
      have hne : w4.heap.size ≠ g7 := by have := P4.out.b7.lt; omega
      have hge : w.heap.size ≤ w4.heap.size := P4.out.kp.size
      have PZ := Lib.hid (P5.out.off9 N5.out hne hge hk6)
      have NZ := Lib.hid (Nine.mk (cs9 := (rcs D vo (.slice none 0 0))) hb6 (P5.out.rf.store N5.out hk6) hne hge)
      clear hb6 hk6
      refine hK.out _ _ (rcs_cells PZ.out.b7) (fun hHeld23 => ?_)
      clear hK K
      try simp only [Act.put, List.setIfInBounds_toArray, List.set_cons_zero, List.set_cons_succ]
      refine wpAnyH_done (by kernel_rfl) ?_ _
      go_wp2_with fail
      go_meet
      exact ⟨c, _, rfl, rfl, PZ.out, NZ.out⟩
    · go_simp
      have P4 := Lib.hid ((P.out.still (Kp.refl _ W).drew).still ((Kp.refl _ W.drew).alloc (.cells #[.slice none 0 0, .slice none 0 0, .bool false, .int .i64 0, .string ⟨#[]⟩, .int .u64 0] 33)))
      have N4 := Lib.hid (Box.new W.drew 33 #[.slice none 0 0, .slice none 0 0, .bool false, .int .i64 0, .string ⟨#[]⟩, .int .u64 0])
      refine hK.out _ _ (rcs_cells P4.out.b7) (fun hHeld24 => ?_)
      clear hK K
      try simp only [Act.put, List.setIfInBounds_toArray, List.set_cons_zero, List.set_cons_succ]
      refine wpAnyH_ready (rs := [1]) (by kernel_rfl) (by simp) ?_
      refine AllReadyH.cons (o := { dst := some 55, op := Op.call { callee := Callee.value (Operand.func 10), args := #[Operand.tmp 54], argTypes := #[25] }, type := 25, pos := "law.go:117", after := #[{ on := 0, ground := Ground.data }], guard := none }) rfl (fun K hK => ?_) AllReadyH.nil
      go_simp
      refine (P4.out.copy (k := 0) hw0).mono ?_
      rintro e w5 ⟨c, rfl, hp, hk⟩
      have P5 := Lib.hid hp
      have N5 := Lib.hid (N4.out.kp hk (fun e => e))
      clear hp hk
      go_wp2_with fail
      refine hK.out _ _ (rcs_cells P5.out.b7) (fun hHeld25 => ?_)
      clear hK K
      try simp only [Act.put, List.setIfInBounds_toArray, List.set_cons_zero, List.set_cons_succ]
      refine wpAnyH_take (i := 4) (oi := { dst := some 8, op := Op.assign (Operand.tmp 55), type := 25, pos := "law.go:117", after := #[{ on := 1, ground := Ground.data }, { on := 1, ground := Ground.chain }, { on := 0, ground := Ground.phase }, { on := 1, ground := Ground.phase }, { on := 2, ground := Ground.textOnly Departure.lateStores }, { on := 3, ground := Ground.phase }], guard := none }) (v := ?_) rfl (by kernel_rfl) (by kernel_rfl) (by kernel_rfl) (fun _ _ _ h => h) (Or.inl ⟨by rfl, ?_⟩) (by assumption) ?_
      rotate_left
      · intro v hSw
        try dsimp only at hSw
        go_simp
        with_reducible rfl
      try simp only [Act.put, List.setIfInBounds_toArray, List.set_cons_zero, List.set_cons_succ]
      refine wpAnyH_ready (rs := [5]) (by kernel_rfl) (by simp) ?_
      refine AllReadyH.cons (o := { dst := none, op := Op.store 33 (Operand.tmp 9) (Operand.tmp 56), type := 0, pos := "law.go:117", after := #[{ on := 3, ground := Ground.data }, { on := 2, ground := Ground.data }, { on := 4, ground := Ground.chain }, { on := 0, ground := Ground.phase }, { on := 1, ground := Ground.phase }, { on := 2, ground := Ground.phase }, { on := 3, ground := Ground.phase }, { on := 4, ground := Ground.phase }], guard := none }) rfl (fun K hK => ?_) AllReadyH.nil
      rw [if_pos (by rfl)]
      refine wp_store_box 33 (.tmp 9) (.tmp 56) rfl W.heap.size (rcs D vo (.slice none 0 0)).toList rfl rfl N5.out rfl infoRef (rcs_one _ _ _ hc1 hc2) ?_
      intro w6 hb6 hk6
      have hne : W.heap.size ≠ g7 := by have := P.out.b7.lt; omega
      have hge : w.heap.size ≤ W.heap.size := P.out.kp.size
      have PZ := Lib.hid (P5.out.off9 N5.out hne hge hk6)
      have NZ := Lib.hid (Nine.mk (cs9 := (rcs D vo (.slice none 0 0))) hb6 (P5.out.rf.store N5.out hk6) hne hge)
      clear hb6 hk6
      refine hK.out _ _ (rcs_cells PZ.out.b7) (fun hHeld26 => ?_)
      clear hK K
      try simp only [Act.put, List.setIfInBounds_toArray, List.set_cons_zero, List.set_cons_succ]
      refine wpAnyH_done (by kernel_rfl) ?_ _
      go_wp2_with fail
      go_meet
      exact ⟨c, _, rfl, rfl, PZ.out, NZ.out⟩
  case rest =>
    obtain ⟨c0, g9, rfl, rfl, hp0, hn0⟩ := hcut
    have PA := Lib.hid hp0
    have NA := Lib.hid hn0
    clear hp0 hn0 P
    go_wp2_with fail
    go_loopw [8, 10] (fun p i wr => ∃ (k c : Nat) (d dc : Dm) (va vb v9a v9b : Value), k ≤ l.length ∧ i = .int .i64 k ∧ p = .pointer (some ⟨c, 0, none⟩) ∧ Pm w.heap.size w wr g7 b c (rcs d va vb) d dc va vb k ∧ Nine w.heap.size wr g7 g9 (rcs dc v9a v9b) dc v9a v9b)
      (fun _ i _ => l.length - (intOf i).toNat)
    case atStart => exact ⟨0, c0, D, D, vo, _, vo, _, Nat.zero_le _, rfl, rfl, PA.out, NA.out⟩
    case round =>
      obtain ⟨k, cp, d, dc, va, vb, v9a, v9b, hk, rfl, rfl, hp, hn⟩ := hrel
      have PM := Lib.hid hp
      have NM := Lib.hid hn
      clear hp hn PA NA
      by_cases hlt : k < l.length
      · obtain ⟨ab, ao, rfl, hab, hcell⟩ : ∃ b o, A = some ⟨b, o, none⟩ ∧ b < w.heap.size ∧ ∀ i x, l[i]? = some x → ∀ j v, x.cells[j]? = some v → w.cell? ⟨b, o + i * 5 + j, none⟩ = some v := by
          rcases H.out.2 with h0 | h0
          · rw [h0] at hlt; simp at hlt
          · exact h0
        obtain ⟨x, hx⟩ : ∃ x, l[k]? = some x := ⟨_, List.getElem?_eq_getElem hlt⟩
        have hxo := H.out.1 x (List.mem_of_getElem? hx)
        have ha : ∀ v, Kp (fun q => w.heap.size ≤ q) w v → v.cell? ⟨ab, ao + k * 5, none⟩ = some (.int .u8 x.d) ∧ v.cell? ⟨ab, ao + k * 5 + 1, none⟩ = some (.int .i64 x.n) ∧ v.cell? ⟨ab, ao + k * 5 + 2, none⟩ = some (.string ⟨x.keep.toArray⟩) ∧ v.cell? ⟨ab, ao + k * 5 + 3, none⟩ = some (.int .u8 x.c.toNat) ∧ v.cell? ⟨ab, ao + k * 5 + 4, none⟩ = some (.bool x.short) := fun v hv => by
          have hat : ∀ j u, x.cells[j]? = some u → v.cell? ⟨ab, ao + k * 5 + j, none⟩ = some u := fun j u hu => (hv.cell (p := ⟨ab, ao + k * 5 + j, none⟩) hab (fun e => absurd (show w.heap.size ≤ ab from e) (by omega))).trans (hcell k x hx j u hu)
          exact ⟨hat 0 _ rfl, hat 1 _ rfl, hat 2 _ rfl, hat 3 _ rfl, hat 4 _ rfl⟩
        have HA := Lib.hid ha
        clear hcell hx ha
        go_upto_region 13 with fail
        go_cut [11, 12] (fun p q wx => ∃ (g11 : Nat) (va' vb' : Value), p = .pointer (some ⟨g11, 0, none⟩) ∧ q = .bool true ∧ Box wx g11 33 (rcs (d.next x) va' vb') ∧ g11 ≠ g7 ∧ Pm w.heap.size w wx g7 b cp (rcs d va vb) (d.next x) dc va' vb' (k + 1) ∧ Nine w.heap.size wx g7 g9 (rcs dc v9a v9b) dc v9a v9b)
        case first =>
          refine wp_region_held_drew (S := fun v => (v.cell? ⟨ab, ao + k * 5, none⟩ = some (.int .u8 x.d) ∧ v.cell? ⟨ab, ao + k * 5 + 1, none⟩ = some (.int .i64 x.n) ∧ v.cell? ⟨ab, ao + k * 5 + 2, none⟩ = some (.string ⟨x.keep.toArray⟩) ∧ v.cell? ⟨ab, ao + k * 5 + 3, none⟩ = some (.int .u8 x.c.toNat) ∧ v.cell? ⟨ab, ao + k * 5 + 4, none⟩ = some (.bool x.short)) ∧ (v.cell? ⟨g7, 0, none⟩ = some (va) ∧ v.cell? ⟨g7, 1, none⟩ = some (vb) ∧ v.cell? ⟨g7, 2, none⟩ = some (.bool (!d.power)) ∧ v.cell? ⟨g7, 3, none⟩ = some (.int .i64 (leftZ d)) ∧ v.cell? ⟨g7, 4, none⟩ = some (.string ⟨d.keep.toArray⟩) ∧ v.cell? ⟨g7, 5, none⟩ = some (.int .u64 d.acts))) (by kernel_rfl) ⟨HA.out wr PM.out.kp, rcs_cells PM.out.b7⟩ (fun hHeld => ?_)
          refine wpAnyH_take (i := 0) (oi := { dst := some 64, op := Op.move (Operand.tmp 5), type := 25, pos := "law.go:119", after := #[], guard := none }) (v := ?_) rfl (by kernel_rfl) (by kernel_rfl) (by kernel_rfl) (fun _ _ _ h => h) (Or.inl ⟨by rfl, ?_⟩) (by assumption) ?_
          rotate_left
          · intro v hSw
            try dsimp only at hSw
            go_simp
            with_reducible rfl
          try simp only [Act.put, List.setIfInBounds_toArray, List.set_cons_zero, List.set_cons_succ]
          refine wpAnyH_take (i := 1) (oi := { dst := some 65, op := Op.load 33 (Operand.tmp 7), type := 33, pos := "law.go:119", after := #[], guard := none }) (v := ?_) rfl (by kernel_rfl) (by kernel_rfl) (by kernel_rfl) (fun _ _ _ h => h) (Or.inl ⟨by rfl, ?_⟩) (by assumption) ?_
          rotate_left
          · intro v hSw
            try dsimp only at hSw
            go_simp
            with_reducible rfl
          try simp only [Act.put, List.setIfInBounds_toArray, List.set_cons_zero, List.set_cons_succ]
          refine wpAnyH_take (i := 2) (oi := { dst := some 66, op := Op.move (Operand.tmp 1), type := 22, pos := "law.go:119", after := #[], guard := none }) (v := ?_) rfl (by kernel_rfl) (by kernel_rfl) (by kernel_rfl) (fun _ _ _ h => h) (Or.inl ⟨by rfl, ?_⟩) (by assumption) ?_
          rotate_left
          · intro v hSw
            try dsimp only at hSw
            go_simp
            with_reducible rfl
          try simp only [Act.put, List.setIfInBounds_toArray, List.set_cons_zero, List.set_cons_succ]
          refine wpAnyH_take (i := 3) (oi := { dst := some 67, op := Op.move (Operand.tmp 10), type := 3, pos := "law.go:119", after := #[], guard := none }) (v := ?_) rfl (by kernel_rfl) (by kernel_rfl) (by kernel_rfl) (fun _ _ _ h => h) (Or.inl ⟨by rfl, ?_⟩) (by assumption) ?_
          rotate_left
          · intro v hSw
            try dsimp only at hSw
            go_simp
            with_reducible rfl
          try simp only [Act.put, List.setIfInBounds_toArray, List.set_cons_zero, List.set_cons_succ]
          refine wpAnyH_take (i := 4) (oi := { dst := some 68, op := Op.indexAddr 22 (Operand.tmp 66) (Operand.tmp 67), type := 0, pos := "law.go:119", after := #[{ on := 2, ground := Ground.data }, { on := 3, ground := Ground.data }], guard := none }) (v := ?_) rfl (by kernel_rfl) (by kernel_rfl) (by kernel_rfl) (fun _ _ _ h => h) (Or.inl ⟨by rfl, ?_⟩) (by assumption) ?_
          rotate_left
          · intro v hSw
            try dsimp only at hSw
            go_simp
            with_reducible rfl
          try simp only [Act.put, List.setIfInBounds_toArray, List.set_cons_zero, List.set_cons_succ]
          refine wpAnyH_take (i := 5) (oi := { dst := some 69, op := Op.load 39 (Operand.tmp 68), type := 39, pos := "law.go:119", after := #[{ on := 4, ground := Ground.data }], guard := none }) (v := ?_) rfl (by kernel_rfl) (by kernel_rfl) (by kernel_rfl) (fun _ _ _ h => h) (Or.inl ⟨by rfl, ?_⟩) (by assumption) ?_
          rotate_left
          · intro v hSw
            try dsimp only at hSw
            go_simp
            with_reducible rfl
          try simp only [Act.put, List.setIfInBounds_toArray, List.set_cons_zero, List.set_cons_succ]
          refine wpAnyH_ready (rs := [6, 10]) (by kernel_rfl) (by simp) ?_
          refine AllReadyH.cons (o := { dst := some 70, op := Op.call { callee := Callee.value (Operand.func 11), args := #[Operand.tmp 64, Operand.tmp 65, Operand.tmp 69], argTypes := #[25, 33, 39] }, type := 36, pos := "law.go:119", after := #[{ on := 0, ground := Ground.data }, { on := 1, ground := Ground.data }, { on := 5, ground := Ground.data }], guard := none }) rfl (fun K hK => ?_) (AllReadyH.cons (o := { dst := some 11, op := Op.alloc 33, type := 0, pos := "law.go:119", after := #[], guard := none }) rfl (fun K hK => ?_) AllReadyH.nil)
          · go_simp
            refine ((PM.out.still (Kp.refl _ wr).drew).does x hxo (by omega)).mono ?_
            rintro e w3 ⟨va2, vb2, rfl, hp, hk⟩
            have P3 := Lib.hid hp
            have N3 := Lib.hid ((NM.out.still (Kp.refl _ wr).drew).dt hk)
            obtain ⟨hc1, hc2⟩ := hp.rf.c1
            clear hp hk
            go_wp2_with fail
            refine hK.out _ _ (⟨HA.out _ P3.out.kp, rcs_cells P3.out.b7⟩) (fun hHeld27 => ?_)
            clear hK K
            try simp only [Act.put, List.setIfInBounds_toArray, List.set_cons_zero, List.set_cons_succ]
            refine wpAnyH_take (i := 7) (oi := { dst := some 63, op := Op.move (Operand.tmp 70), type := 36, pos := "law.go:119", after := #[{ on := 6, ground := Ground.data }], guard := none }) (v := ?_) rfl (by kernel_rfl) (by kernel_rfl) (by kernel_rfl) (fun _ _ _ h => h) (Or.inl ⟨by rfl, ?_⟩) (by assumption) ?_
            rotate_left
            · intro v hSw
              try dsimp only at hSw
              go_simp
              with_reducible rfl
            try simp only [Act.put, List.setIfInBounds_toArray, List.set_cons_zero, List.set_cons_succ]
            refine wpAnyH_take (i := 8) (oi := { dst := some 71, op := Op.extract (Operand.tmp 63) 0, type := 33, pos := "law.go:119", after := #[{ on := 7, ground := Ground.data }], guard := none }) (v := ?_) rfl (by kernel_rfl) (by kernel_rfl) (by kernel_rfl) (fun _ _ _ h => h) (Or.inl ⟨by rfl, ?_⟩) (by assumption) ?_
            rotate_left
            · intro v hSw
              try dsimp only at hSw
              go_simp
              with_reducible rfl
            try simp only [Act.put, List.setIfInBounds_toArray, List.set_cons_zero, List.set_cons_succ]
            refine wpAnyH_take (i := 9) (oi := { dst := some 72, op := Op.extract (Operand.tmp 63) 1, type := 4, pos := "law.go:119", after := #[{ on := 7, ground := Ground.data }, { on := 11, ground := Ground.gcOnly Departure.lateStores }], guard := none }) (v := ?_) rfl (by kernel_rfl) (by kernel_rfl) (by kernel_rfl) (fun _ _ _ h => h) (Or.inl ⟨by rfl, ?_⟩) (by assumption) ?_
            rotate_left
            · intro v hSw
              try dsimp only at hSw
              go_simp
              with_reducible rfl
            try simp only [Act.put, List.setIfInBounds_toArray, List.set_cons_zero, List.set_cons_succ]
            refine wpAnyH_ready (rs := [10]) (by kernel_rfl) (by simp) ?_
            refine AllReadyH.cons (o := { dst := some 11, op := Op.alloc 33, type := 0, pos := "law.go:119", after := #[], guard := none }) rfl (fun K hK => ?_) AllReadyH.nil
            go_simp
            have P4 := Lib.hid (P3.out.still ((Kp.refl _ w3).alloc (.cells #[.slice none 0 0, .slice none 0 0, .bool false, .int .i64 0, .string ⟨#[]⟩, .int .u64 0] 33)))
            have N4 := Lib.hid (N3.out.still ((Kp.refl _ w3).alloc (.cells #[.slice none 0 0, .slice none 0 0, .bool false, .int .i64 0, .string ⟨#[]⟩, .int .u64 0] 33)))
            have B4 := Lib.hid (Box.new w3 33 #[.slice none 0 0, .slice none 0 0, .bool false, .int .i64 0, .string ⟨#[]⟩, .int .u64 0])
            refine hK.out _ _ (⟨HA.out _ P4.out.kp, rcs_cells P4.out.b7⟩) (fun hHeld28 => ?_)
            clear hK K
            try simp only [Act.put, List.setIfInBounds_toArray, List.set_cons_zero, List.set_cons_succ]
            refine wpAnyH_ready (rs := [11]) (by kernel_rfl) (by simp) ?_
            refine AllReadyH.cons (o := { dst := none, op := Op.store 33 (Operand.tmp 11) (Operand.tmp 71), type := 0, pos := "law.go:119", after := #[{ on := 10, ground := Ground.data }, { on := 8, ground := Ground.data }, { on := 6, ground := Ground.chain }, { on := 0, ground := Ground.phase }, { on := 1, ground := Ground.phase }, { on := 2, ground := Ground.phase }, { on := 3, ground := Ground.phase }, { on := 4, ground := Ground.phase }, { on := 5, ground := Ground.phase }, { on := 6, ground := Ground.phase }, { on := 7, ground := Ground.phase }, { on := 8, ground := Ground.phase }, { on := 9, ground := Ground.textOnly Departure.lateStores }, { on := 10, ground := Ground.phase }], guard := none }) rfl (fun K hK => ?_) AllReadyH.nil
            rw [if_pos (by rfl)]
            refine wp_store_box 33 (.tmp 11) (.tmp 71) rfl w3.heap.size (rcs (d.next x) va2 vb2).toList rfl rfl B4.out rfl infoRef (rcs_one _ _ _ hc1 hc2) ?_
            intro w6 hb6 hk6
            have hne : w3.heap.size ≠ g7 := by have := P3.out.b7.lt; omega
            have hn9 : w3.heap.size ≠ g9 := by have := N3.out.b9.lt; omega
            have hge : w.heap.size ≤ w3.heap.size := by have := P3.out.kp.size; omega
            have PZ := Lib.hid (P4.out.off9 B4.out hne hge hk6)
            have NZ := Lib.hid (Nine.mk (N4.out.b9.kp hk6 fun e => hn9 e.symm) (N4.out.rc.store B4.out hk6) N4.out.ne N4.out.ge)
            have BZ := Lib.hid hb6
            clear hb6 hk6
            refine hK.out _ _ (⟨HA.out _ PZ.out.kp, rcs_cells PZ.out.b7⟩) (fun hHeld29 => ?_)
            clear hK K
            try simp only [Act.put, List.setIfInBounds_toArray, List.set_cons_zero, List.set_cons_succ]
            refine wpAnyH_take (i := 12) (oi := { dst := some 12, op := Op.assign (Operand.tmp 72), type := 4, pos := "law.go:119", after := #[{ on := 9, ground := Ground.data }, { on := 11, ground := Ground.chain }, { on := 0, ground := Ground.phase }, { on := 1, ground := Ground.phase }, { on := 2, ground := Ground.phase }, { on := 3, ground := Ground.phase }, { on := 4, ground := Ground.phase }, { on := 5, ground := Ground.phase }, { on := 6, ground := Ground.phase }, { on := 7, ground := Ground.phase }, { on := 8, ground := Ground.phase }, { on := 9, ground := Ground.phase }, { on := 10, ground := Ground.phase }, { on := 11, ground := Ground.phase }], guard := none }) (v := ?_) rfl (by kernel_rfl) (by kernel_rfl) (by kernel_rfl) (fun _ _ _ h => h) (Or.inl ⟨by rfl, ?_⟩) (by assumption) ?_
            rotate_left
            · intro v hSw
              try dsimp only at hSw
              go_simp
              with_reducible rfl
            try simp only [Act.put, List.setIfInBounds_toArray, List.set_cons_zero, List.set_cons_succ]
            refine wpAnyH_done (by kernel_rfl) ?_ _
            go_wp2_with fail
            go_meet
            exact ⟨_, va2, vb2, rfl, rfl, BZ.out, hne, PZ.out, NZ.out⟩
          · go_simp
            have P3 := Lib.hid ((PM.out.still (Kp.refl _ wr).drew).still ((Kp.refl _ wr.drew).alloc (.cells #[.slice none 0 0, .slice none 0 0, .bool false, .int .i64 0, .string ⟨#[]⟩, .int .u64 0] 33)))
            have N3 := Lib.hid ((NM.out.still (Kp.refl _ wr).drew).still ((Kp.refl _ wr.drew).alloc (.cells #[.slice none 0 0, .slice none 0 0, .bool false, .int .i64 0, .string ⟨#[]⟩, .int .u64 0] 33)))
            have B3 := Lib.hid (Box.new wr.drew 33 #[.slice none 0 0, .slice none 0 0, .bool false, .int .i64 0, .string ⟨#[]⟩, .int .u64 0])
            refine hK.out _ _ (⟨HA.out _ P3.out.kp, rcs_cells P3.out.b7⟩) (fun hHeld30 => ?_)
            clear hK K
            try simp only [Act.put, List.setIfInBounds_toArray, List.set_cons_zero, List.set_cons_succ]
            refine wpAnyH_ready (rs := [6]) (by kernel_rfl) (by simp) ?_
            refine AllReadyH.cons (o := { dst := some 70, op := Op.call { callee := Callee.value (Operand.func 11), args := #[Operand.tmp 64, Operand.tmp 65, Operand.tmp 69], argTypes := #[25, 33, 39] }, type := 36, pos := "law.go:119", after := #[{ on := 0, ground := Ground.data }, { on := 1, ground := Ground.data }, { on := 5, ground := Ground.data }], guard := none }) rfl (fun K hK => ?_) AllReadyH.nil
            go_simp
            refine (P3.out.does x hxo (by omega)).mono ?_
            rintro e w4 ⟨va2, vb2, rfl, hp, hk⟩
            have P4 := Lib.hid hp
            have N4 := Lib.hid (N3.out.dt hk)
            have B4 := Lib.hid (B3.out.dt hk ⟨by decide, by decide, by decide⟩)
            obtain ⟨hc1, hc2⟩ := hp.rf.c1
            clear hp hk
            go_wp2_with fail
            refine hK.out _ _ (⟨HA.out _ P4.out.kp, rcs_cells P4.out.b7⟩) (fun hHeld31 => ?_)
            clear hK K
            try simp only [Act.put, List.setIfInBounds_toArray, List.set_cons_zero, List.set_cons_succ]
            refine wpAnyH_take (i := 7) (oi := { dst := some 63, op := Op.move (Operand.tmp 70), type := 36, pos := "law.go:119", after := #[{ on := 6, ground := Ground.data }], guard := none }) (v := ?_) rfl (by kernel_rfl) (by kernel_rfl) (by kernel_rfl) (fun _ _ _ h => h) (Or.inl ⟨by rfl, ?_⟩) (by assumption) ?_
            rotate_left
            · intro v hSw
              try dsimp only at hSw
              go_simp
              with_reducible rfl
            try simp only [Act.put, List.setIfInBounds_toArray, List.set_cons_zero, List.set_cons_succ]
            refine wpAnyH_take (i := 8) (oi := { dst := some 71, op := Op.extract (Operand.tmp 63) 0, type := 33, pos := "law.go:119", after := #[{ on := 7, ground := Ground.data }], guard := none }) (v := ?_) rfl (by kernel_rfl) (by kernel_rfl) (by kernel_rfl) (fun _ _ _ h => h) (Or.inl ⟨by rfl, ?_⟩) (by assumption) ?_
            rotate_left
            · intro v hSw
              try dsimp only at hSw
              go_simp
              with_reducible rfl
            try simp only [Act.put, List.setIfInBounds_toArray, List.set_cons_zero, List.set_cons_succ]
            refine wpAnyH_take (i := 9) (oi := { dst := some 72, op := Op.extract (Operand.tmp 63) 1, type := 4, pos := "law.go:119", after := #[{ on := 7, ground := Ground.data }, { on := 11, ground := Ground.gcOnly Departure.lateStores }], guard := none }) (v := ?_) rfl (by kernel_rfl) (by kernel_rfl) (by kernel_rfl) (fun _ _ _ h => h) (Or.inl ⟨by rfl, ?_⟩) (by assumption) ?_
            rotate_left
            · intro v hSw
              try dsimp only at hSw
              go_simp
              with_reducible rfl
            try simp only [Act.put, List.setIfInBounds_toArray, List.set_cons_zero, List.set_cons_succ]
            refine wpAnyH_ready (rs := [11]) (by kernel_rfl) (by simp) ?_
            refine AllReadyH.cons (o := { dst := none, op := Op.store 33 (Operand.tmp 11) (Operand.tmp 71), type := 0, pos := "law.go:119", after := #[{ on := 10, ground := Ground.data }, { on := 8, ground := Ground.data }, { on := 6, ground := Ground.chain }, { on := 0, ground := Ground.phase }, { on := 1, ground := Ground.phase }, { on := 2, ground := Ground.phase }, { on := 3, ground := Ground.phase }, { on := 4, ground := Ground.phase }, { on := 5, ground := Ground.phase }, { on := 6, ground := Ground.phase }, { on := 7, ground := Ground.phase }, { on := 8, ground := Ground.phase }, { on := 9, ground := Ground.textOnly Departure.lateStores }, { on := 10, ground := Ground.phase }], guard := none }) rfl (fun K hK => ?_) AllReadyH.nil
            rw [if_pos (by rfl)]
            refine wp_store_box 33 (.tmp 11) (.tmp 71) rfl wr.heap.size (rcs (d.next x) va2 vb2).toList rfl rfl B4.out rfl infoRef (rcs_one _ _ _ hc1 hc2) ?_
            intro w6 hb6 hk6
            have hne : wr.heap.size ≠ g7 := by have := PM.out.b7.lt; omega
            have hn9 : wr.heap.size ≠ g9 := by have := NM.out.b9.lt; omega
            have hge : w.heap.size ≤ wr.heap.size := by have := PM.out.kp.size; omega
            have PZ := Lib.hid (P4.out.off9 B4.out hne hge hk6)
            have NZ := Lib.hid (Nine.mk (N4.out.b9.kp hk6 fun e => hn9 e.symm) (N4.out.rc.store B4.out hk6) N4.out.ne N4.out.ge)
            have BZ := Lib.hid hb6
            clear hb6 hk6
            refine hK.out _ _ (⟨HA.out _ PZ.out.kp, rcs_cells PZ.out.b7⟩) (fun hHeld32 => ?_)
            clear hK K
            try simp only [Act.put, List.setIfInBounds_toArray, List.set_cons_zero, List.set_cons_succ]
            refine wpAnyH_take (i := 12) (oi := { dst := some 12, op := Op.assign (Operand.tmp 72), type := 4, pos := "law.go:119", after := #[{ on := 9, ground := Ground.data }, { on := 11, ground := Ground.chain }, { on := 0, ground := Ground.phase }, { on := 1, ground := Ground.phase }, { on := 2, ground := Ground.phase }, { on := 3, ground := Ground.phase }, { on := 4, ground := Ground.phase }, { on := 5, ground := Ground.phase }, { on := 6, ground := Ground.phase }, { on := 7, ground := Ground.phase }, { on := 8, ground := Ground.phase }, { on := 9, ground := Ground.phase }, { on := 10, ground := Ground.phase }, { on := 11, ground := Ground.phase }], guard := none }) (v := ?_) rfl (by kernel_rfl) (by kernel_rfl) (by kernel_rfl) (fun _ _ _ h => h) (Or.inl ⟨by rfl, ?_⟩) (by assumption) ?_
            rotate_left
            · intro v hSw
              try dsimp only at hSw
              go_simp
              with_reducible rfl
            try simp only [Act.put, List.setIfInBounds_toArray, List.set_cons_zero, List.set_cons_succ]
            refine wpAnyH_done (by kernel_rfl) ?_ _
            go_wp2_with fail
            go_meet
            exact ⟨_, va2, vb2, rfl, rfl, BZ.out, hne, PZ.out, NZ.out⟩
        case rest =>
          obtain ⟨g11, va2, vb2, rfl, rfl, hb11, hne, hp, hn⟩ := hcut
          generalize d.next x = d2 at *
          obtain ⟨hc1, hc2⟩ := hp.rf.c1
          obtain ⟨m, hm⟩ : ∃ m, m = l.length / 2 := ⟨_, rfl⟩
          have hq : ((l.length : Int)).tdiv 2 = (m : Int) := by rw [hm]; exact (Int.ofNat_tdiv l.length 2).symm
          have hwm : wrap64 (m : Int) = (m : Int) := by
            have : m ≤ 40 := by omega
            first | (show IntKind.i64.wrap (m : Int) = m; rw [IntKind.wrap_i64]; omega) | (unfold wrap64; omega)
          have PX := Lib.hid hp
          have NX := Lib.hid hn
          have BX := Lib.hid hb11
          clear hp hn hb11 PM NM hm
          go_upto_region 17 with (first | (refine wpList_load_mid rfl 33 (.tmp 11) rfl g11 0 rfl (rcs d2 va2 vb2).toList _ (Box.range' (L := (rcs d2 va2 vb2).toList) BX.out) Try.underlying33 rfl infoRef ?_) | (refine wpList_store_box rfl 33 (.tmp 7) (.tmp 75) rfl g7 (rcs d2 va2 vb2).toList rfl rfl PX.out.b7 rfl infoRef (rcs_one _ _ _ hc1 hc2) ?_; intro wz hbz hkz) | fail)
          have PY := Lib.hid (PX.out.put hbz hkz)
          have NY := Lib.hid (NX.out.off PX.out.b7 hkz)
          clear hbz hkz PX NX BX
          by_cases hkm : k = m
          · have hd : ((k : Int) == (m : Int)) = true := by simp [hkm]
            have HKM := Lib.hid hkm
            clear hkm
            go_wp2_with fail
            refine (PY.out.p0.copy PY.out.wt).mono ?_
            rintro e w8 ⟨c8, rfl, hp8, hk8⟩
            have P8 := Lib.hid hp8
            have N8 := Lib.hid (NY.out.still hk8)
            clear hp8 hk8
            go_wp2_with (first | (refine wpList_load_mid rfl 33 (.tmp 7) rfl g7 0 rfl (rcs d2 va2 vb2).toList _ (Box.range' (L := (rcs d2 va2 vb2).toList) P8.out.b7) Try.underlying33 rfl infoRef ?_) | (refine wpList_store_box rfl 33 (.tmp 9) (.tmp 83) rfl g9 (rcs d2 va2 vb2).toList rfl rfl N8.out.b9 rfl infoRef (rcs_one _ _ _ hc1 hc2) ?_; intro wy hby hky) | fail)
            go_roundw
            case rel => exact ⟨k + 1, c8, d2, d2, va2, vb2, va2, vb2, by omega, by go_num, rfl, P8.out.off9 N8.out.b9 N8.out.ne N8.out.ge hky, ⟨hby, P8.out.rf.store N8.out.b9 hky, N8.out.ne, N8.out.ge⟩⟩
            case measure => simp [intOf]; omega
          · have hd : ((k : Int) == (m : Int)) = false := by simp; omega
            have HKM := Lib.hid hkm
            clear hkm
            go_wp2_with fail
            go_roundw
            case rel => exact ⟨k + 1, cp, d2, dc, va2, vb2, v9a, v9b, by omega, by go_num, rfl, PY.out, NY.out⟩
            case measure => simp [intOf]; omega
      · obtain ⟨A9, c9, hv9⟩ : ∃ A9 c9, v9b = .slice A9 dc.wait.length c9 := by
          obtain ⟨_, A, cap, hv, _⟩ := NM.out.rc.wt
          exact ⟨A, cap, hv⟩
        subst hv9
        have hdcok : dc.ok := by
          obtain ⟨FC, _, hdc, _⟩ := PM.out.ds
          exact hdc.ok
        have HDC := Lib.hid hdcok
        obtain ⟨hc3, hc4⟩ := NM.out.rc.c1
        clear hdcok
        go_upto_region 20 with fail
        go_cut [112] (fun p wx => p = .bool false ∧ Pm w.heap.size w wx g7 b cp (rcs d va vb) d dc va vb k ∧ Nine w.heap.size wx g7 g9 (rcs dc v9a (.slice A9 dc.wait.length c9)) dc v9a (.slice A9 dc.wait.length c9))
        case first =>
          refine wp_region_held_drew (S := fun v => (v.cell? ⟨g7, 0, none⟩ = some (va) ∧ v.cell? ⟨g7, 1, none⟩ = some (vb) ∧ v.cell? ⟨g7, 2, none⟩ = some (.bool (!d.power)) ∧ v.cell? ⟨g7, 3, none⟩ = some (.int .i64 (leftZ d)) ∧ v.cell? ⟨g7, 4, none⟩ = some (.string ⟨d.keep.toArray⟩) ∧ v.cell? ⟨g7, 5, none⟩ = some (.int .u64 d.acts)) ∧ (v.cell? ⟨g9, 0, none⟩ = some (v9a) ∧ v.cell? ⟨g9, 1, none⟩ = some (.slice A9 dc.wait.length c9) ∧ v.cell? ⟨g9, 2, none⟩ = some (.bool (!dc.power)) ∧ v.cell? ⟨g9, 3, none⟩ = some (.int .i64 (leftZ dc)) ∧ v.cell? ⟨g9, 4, none⟩ = some (.string ⟨dc.keep.toArray⟩) ∧ v.cell? ⟨g9, 5, none⟩ = some (.int .u64 dc.acts))) (by kernel_rfl) ⟨rcs_cells PM.out.b7, rcs_cells NM.out.b9⟩ (fun hHeld => ?_)
          refine wpAnyH_take (i := 0) (oi := { dst := some 84, op := Op.move (Operand.tmp 5), type := 25, pos := "law.go:129", after := #[], guard := none }) (v := ?_) rfl (by kernel_rfl) (by kernel_rfl) (by kernel_rfl) (fun _ _ _ h => h) (Or.inl ⟨by rfl, ?_⟩) (by assumption) ?_
          rotate_left
          · intro v hSw
            try dsimp only at hSw
            go_simp
            with_reducible rfl
          try simp only [Act.put, List.setIfInBounds_toArray, List.set_cons_zero, List.set_cons_succ]
          refine wpAnyH_take (i := 1) (oi := { dst := some 85, op := Op.load 33 (Operand.tmp 7), type := 33, pos := "law.go:129", after := #[], guard := none }) (v := ?_) rfl (by kernel_rfl) (by kernel_rfl) (by kernel_rfl) (fun _ _ _ h => h) (Or.inl ⟨by rfl, ?_⟩) (by assumption) ?_
          rotate_left
          · intro v hSw
            try dsimp only at hSw
            go_simp
            with_reducible rfl
          try simp only [Act.put, List.setIfInBounds_toArray, List.set_cons_zero, List.set_cons_succ]
          refine wpAnyH_ready (rs := [2]) (by kernel_rfl) (by simp) ?_
          refine AllReadyH.cons (o := { dst := some 86, op := Op.call { callee := Callee.value (Operand.func 12), args := #[Operand.tmp 84, Operand.tmp 85], argTypes := #[25, 33] }, type := 4, pos := "law.go:129", after := #[{ on := 0, ground := Ground.data }, { on := 1, ground := Ground.data }], guard := none }) rfl (fun K hK => ?_) AllReadyH.nil
          go_simp
          refine (same_any (PM.out.p0.dk.still (Kp.refl _ wr).drew) (PM.out.rf.still (Kp.refl _ wr).drew)).mono ?_
          rintro e w3 ⟨rfl, hk⟩
          have P3 := Lib.hid (PM.out.still ((Kp.refl _ wr).drew.trans hk))
          have N3 := Lib.hid (NM.out.still ((Kp.refl _ wr).drew.trans hk))
          clear hk
          obtain ⟨FC, _, hdc, _⟩ := P3.out.ds
          have DC := Lib.hid hdc
          clear hdc
          go_wp2_with fail
          refine hK.out _ _ (⟨rcs_cells P3.out.b7, rcs_cells N3.out.b9⟩) (fun hHeld33 => ?_)
          clear hK K
          try simp only [Act.put, List.setIfInBounds_toArray, List.set_cons_zero, List.set_cons_succ]
          refine wpAnyH_take (i := 3) (oi := { dst := some 87, op := Op.unOp UnOp.not 4 (Operand.tmp 86), type := 4, pos := "law.go:129", after := #[{ on := 2, ground := Ground.data }], guard := none }) (v := ?_) rfl (by kernel_rfl) (by kernel_rfl) (by kernel_rfl) (fun _ _ _ h => h) (Or.inl ⟨by rfl, ?_⟩) (by assumption) ?_
          rotate_left
          · intro v hSw
            try dsimp only at hSw
            go_simp
            with_reducible rfl
          try simp only [Act.put, List.setIfInBounds_toArray, List.set_cons_zero, List.set_cons_succ]
          refine wpAnyH_take (i := 4) (oi := { dst := some 88, op := Op.move (Operand.tmp 87), type := 4, pos := "law.go:129", after := #[{ on := 3, ground := Ground.data }, { on := 2, ground := Ground.chain }], guard := none }) (v := ?_) rfl (by kernel_rfl) (by kernel_rfl) (by kernel_rfl) (fun _ _ _ h => h) (Or.inl ⟨by rfl, ?_⟩) (by assumption) ?_
          rotate_left
          · intro v hSw
            try dsimp only at hSw
            go_simp
            with_reducible rfl
          try simp only [Act.put, List.setIfInBounds_toArray, List.set_cons_zero, List.set_cons_succ]
          refine wpAnyH_take (i := 5) (oi := { dst := some 89, op := Op.move (Operand.tmp 8), type := 25, pos := "law.go:129", after := #[{ on := 4, ground := Ground.guard }], guard := some (4, false) }) (v := ?_) rfl (by kernel_rfl) (by kernel_rfl) (by kernel_rfl) (fun _ _ _ h => h) (Or.inl ⟨by rfl, ?_⟩) (by assumption) ?_
          rotate_left
          · intro v hSw
            try dsimp only at hSw
            go_simp
            with_reducible rfl
          try simp only [Act.put, List.setIfInBounds_toArray, List.set_cons_zero, List.set_cons_succ]
          refine wpAnyH_take (i := 6) (oi := { dst := some 90, op := Op.binOp BinOp.eql 25 (Operand.tmp 89) (Operand.const (Value.pointer none)) 25, type := 4, pos := "law.go:129", after := #[{ on := 5, ground := Ground.data }, { on := 4, ground := Ground.guard }], guard := some (4, false) }) (v := ?_) rfl (by kernel_rfl) (by kernel_rfl) (by kernel_rfl) (fun _ _ _ h => h) (Or.inl ⟨by rfl, ?_⟩) (by assumption) ?_
          rotate_left
          · intro v hSw
            try dsimp only at hSw
            go_simp
            with_reducible rfl
          try simp only [Act.put, List.setIfInBounds_toArray, List.set_cons_zero, List.set_cons_succ]
          refine wpAnyH_take (i := 7) (oi := { dst := some 91, op := Op.pick (Operand.tmp 88) (Operand.const (Value.bool true)) (Operand.tmp 90), type := 4, pos := "law.go:129", after := #[{ on := 4, ground := Ground.data }, { on := 6, ground := Ground.data }], guard := none }) (v := ?_) rfl (by kernel_rfl) (by kernel_rfl) (by kernel_rfl) (fun _ _ _ h => h) (Or.inl ⟨by rfl, ?_⟩) (by assumption) ?_
          rotate_left
          · intro v hSw
            try dsimp only at hSw
            go_simp
            with_reducible rfl
          try simp only [Act.put, List.setIfInBounds_toArray, List.set_cons_zero, List.set_cons_succ]
          refine wpAnyH_take (i := 8) (oi := { dst := some 92, op := Op.move (Operand.tmp 91), type := 4, pos := "law.go:129", after := #[{ on := 7, ground := Ground.data }, { on := 4, ground := Ground.chain }], guard := none }) (v := ?_) rfl (by kernel_rfl) (by kernel_rfl) (by kernel_rfl) (fun _ _ _ h => h) (Or.inl ⟨by rfl, ?_⟩) (by assumption) ?_
          rotate_left
          · intro v hSw
            try dsimp only at hSw
            go_simp
            with_reducible rfl
          try simp only [Act.put, List.setIfInBounds_toArray, List.set_cons_zero, List.set_cons_succ]
          refine wpAnyH_take (i := 9) (oi := { dst := some 93, op := Op.move (Operand.tmp 8), type := 25, pos := "law.go:129", after := #[{ on := 8, ground := Ground.guard }], guard := some (8, false) }) (v := ?_) rfl (by kernel_rfl) (by kernel_rfl) (by kernel_rfl) (fun _ _ _ h => h) (Or.inl ⟨by rfl, ?_⟩) (by assumption) ?_
          rotate_left
          · intro v hSw
            try dsimp only at hSw
            go_simp
            with_reducible rfl
          try simp only [Act.put, List.setIfInBounds_toArray, List.set_cons_zero, List.set_cons_succ]
          refine wpAnyH_take (i := 10) (oi := { dst := some 94, op := Op.load 33 (Operand.tmp 9), type := 33, pos := "law.go:129", after := #[{ on := 8, ground := Ground.guard }], guard := some (8, false) }) (v := ?_) rfl (by kernel_rfl) (by kernel_rfl) (by kernel_rfl) (fun _ _ _ h => h) (Or.inl ⟨by rfl, ?_⟩) (by assumption) ?_
          rotate_left
          · intro v hSw
            try dsimp only at hSw
            go_simp
            with_reducible rfl
          try simp only [Act.put, List.setIfInBounds_toArray, List.set_cons_zero, List.set_cons_succ]
          refine wpAnyH_ready (rs := [11]) (by kernel_rfl) (by simp) ?_
          refine AllReadyH.cons (o := { dst := some 95, op := Op.call { callee := Callee.value (Operand.func 12), args := #[Operand.tmp 93, Operand.tmp 94], argTypes := #[25, 33] }, type := 4, pos := "law.go:129", after := #[{ on := 9, ground := Ground.data }, { on := 10, ground := Ground.data }, { on := 8, ground := Ground.chain }, { on := 8, ground := Ground.guard }], guard := some (8, false) }) rfl (fun K hK => ?_) AllReadyH.nil
          go_simp
          refine (same_any DC.out N3.out.rc).mono ?_
          rintro e w4 ⟨rfl, hk⟩
          have P4 := Lib.hid (P3.out.still hk)
          have N4 := Lib.hid (N3.out.still hk)
          have DC4 := Lib.hid (DC.out.still hk)
          clear hk
          go_wp2_with fail
          refine hK.out _ _ (⟨rcs_cells P4.out.b7, rcs_cells N4.out.b9⟩) (fun hHeld34 => ?_)
          clear hK K
          try simp only [Act.put, List.setIfInBounds_toArray, List.set_cons_zero, List.set_cons_succ]
          refine wpAnyH_take (i := 12) (oi := { dst := some 96, op := Op.unOp UnOp.not 4 (Operand.tmp 95), type := 4, pos := "law.go:129", after := #[{ on := 11, ground := Ground.data }, { on := 8, ground := Ground.guard }], guard := some (8, false) }) (v := ?_) rfl (by kernel_rfl) (by kernel_rfl) (by kernel_rfl) (fun _ _ _ h => h) (Or.inl ⟨by rfl, ?_⟩) (by assumption) ?_
          rotate_left
          · intro v hSw
            try dsimp only at hSw
            go_simp
            with_reducible rfl
          try simp only [Act.put, List.setIfInBounds_toArray, List.set_cons_zero, List.set_cons_succ]
          refine wpAnyH_take (i := 13) (oi := { dst := some 97, op := Op.pick (Operand.tmp 92) (Operand.const (Value.bool true)) (Operand.tmp 96), type := 4, pos := "law.go:129", after := #[{ on := 8, ground := Ground.data }, { on := 12, ground := Ground.data }], guard := none }) (v := ?_) rfl (by kernel_rfl) (by kernel_rfl) (by kernel_rfl) (fun _ _ _ h => h) (Or.inl ⟨by rfl, ?_⟩) (by assumption) ?_
          rotate_left
          · intro v hSw
            try dsimp only at hSw
            go_simp
            with_reducible rfl
          try simp only [Act.put, List.setIfInBounds_toArray, List.set_cons_zero, List.set_cons_succ]
          refine wpAnyH_take (i := 14) (oi := { dst := some 98, op := Op.move (Operand.tmp 97), type := 4, pos := "law.go:129", after := #[{ on := 13, ground := Ground.data }, { on := 11, ground := Ground.chain }], guard := none }) (v := ?_) rfl (by kernel_rfl) (by kernel_rfl) (by kernel_rfl) (fun _ _ _ h => h) (Or.inl ⟨by rfl, ?_⟩) (by assumption) ?_
          rotate_left
          · intro v hSw
            try dsimp only at hSw
            go_simp
            with_reducible rfl
          try simp only [Act.put, List.setIfInBounds_toArray, List.set_cons_zero, List.set_cons_succ]
          refine wpAnyH_take (i := 15) (oi := { dst := some 99, op := Op.move (Operand.tmp 8), type := 25, pos := "law.go:129", after := #[{ on := 14, ground := Ground.guard }], guard := some (14, false) }) (v := ?_) rfl (by kernel_rfl) (by kernel_rfl) (by kernel_rfl) (fun _ _ _ h => h) (Or.inl ⟨by rfl, ?_⟩) (by assumption) ?_
          rotate_left
          · intro v hSw
            try dsimp only at hSw
            go_simp
            with_reducible rfl
          try simp only [Act.put, List.setIfInBounds_toArray, List.set_cons_zero, List.set_cons_succ]
          refine wpAnyH_take (i := 17) (oi := { dst := some 101, op := Op.fieldAddr 33 (Operand.tmp 9) 1, type := 0, pos := "law.go:129", after := #[{ on := 14, ground := Ground.guard }], guard := some (14, false) }) (v := ?_) rfl (by kernel_rfl) (by kernel_rfl) (by kernel_rfl) (fun _ _ _ h => h) (Or.inl ⟨by rfl, ?_⟩) (by assumption) ?_
          rotate_left
          · intro v hSw
            try dsimp only at hSw
            go_simp
            with_reducible rfl
          try simp only [Act.put, List.setIfInBounds_toArray, List.set_cons_zero, List.set_cons_succ]
          refine wpAnyH_take (i := 18) (oi := { dst := some 102, op := Op.load 30 (Operand.tmp 101), type := 30, pos := "law.go:129", after := #[{ on := 17, ground := Ground.data }, { on := 14, ground := Ground.guard }], guard := some (14, false) }) (v := ?_) rfl (by kernel_rfl) (by kernel_rfl) (by kernel_rfl) (fun _ _ _ h => h) (Or.inl ⟨by rfl, ?_⟩) (by assumption) ?_
          rotate_left
          · intro v hSw
            try dsimp only at hSw
            go_simp
            with_reducible rfl
          try simp only [Act.put, List.setIfInBounds_toArray, List.set_cons_zero, List.set_cons_succ]
          refine wpAnyH_take (i := 19) (oi := { dst := some 103, op := Op.call { callee := Callee.builtin Builtin.len, args := #[Operand.tmp 102], argTypes := #[30] }, type := 3, pos := "law.go:129", after := #[{ on := 18, ground := Ground.data }, { on := 14, ground := Ground.guard }], guard := some (14, false) }) (v := ?_) rfl (by kernel_rfl) (by kernel_rfl) (by kernel_rfl) (fun _ _ _ h => h) (Or.inl ⟨by rfl, ?_⟩) (by assumption) ?_
          rotate_left
          · intro v hSw
            try dsimp only at hSw
            go_simp
            with_reducible rfl
          try simp only [Act.put, List.setIfInBounds_toArray, List.set_cons_zero, List.set_cons_succ]
          refine wpAnyH_ready (rs := [16]) (by kernel_rfl) (by simp) ?_
          refine AllReadyH.cons (o := { dst := some 100, op := Op.call { callee := Callee.value (Operand.func 13), args := #[Operand.tmp 99], argTypes := #[25] }, type := 3, pos := "law.go:129", after := #[{ on := 15, ground := Ground.data }, { on := 14, ground := Ground.chain }, { on := 14, ground := Ground.guard }], guard := some (14, false) }) rfl (fun K hK => ?_) AllReadyH.nil
          go_simp
          refine (waiting_any DC4.out).mono ?_
          rintro e w5 ⟨rfl, rfl⟩
          go_wp2_with fail
          refine hK.out _ _ (⟨rcs_cells P4.out.b7, rcs_cells N4.out.b9⟩) (fun hHeld35 => ?_)
          clear hK K
          try simp only [Act.put, List.setIfInBounds_toArray, List.set_cons_zero, List.set_cons_succ]
          refine wpAnyH_take (i := 20) (oi := { dst := some 104, op := Op.binOp BinOp.neq 3 (Operand.tmp 100) (Operand.tmp 103) 3, type := 4, pos := "law.go:129", after := #[{ on := 16, ground := Ground.data }, { on := 19, ground := Ground.data }, { on := 14, ground := Ground.guard }], guard := some (14, false) }) (v := ?_) rfl (by kernel_rfl) (by kernel_rfl) (by kernel_rfl) (fun _ _ _ h => h) (Or.inl ⟨by rfl, ?_⟩) (by assumption) ?_
          rotate_left
          · intro v hSw
            try dsimp only at hSw
            go_simp
            with_reducible rfl
          try simp only [Act.put, List.setIfInBounds_toArray, List.set_cons_zero, List.set_cons_succ]
          refine wpAnyH_take (i := 21) (oi := { dst := some 105, op := Op.pick (Operand.tmp 98) (Operand.const (Value.bool true)) (Operand.tmp 104), type := 4, pos := "law.go:129", after := #[{ on := 14, ground := Ground.data }, { on := 20, ground := Ground.data }], guard := none }) (v := ?_) rfl (by kernel_rfl) (by kernel_rfl) (by kernel_rfl) (fun _ _ _ h => h) (Or.inl ⟨by rfl, ?_⟩) (by assumption) ?_
          rotate_left
          · intro v hSw
            try dsimp only at hSw
            go_simp
            with_reducible rfl
          try simp only [Act.put, List.setIfInBounds_toArray, List.set_cons_zero, List.set_cons_succ]
          refine wpAnyH_take (i := 22) (oi := { dst := some 106, op := Op.move (Operand.tmp 105), type := 4, pos := "law.go:129", after := #[{ on := 21, ground := Ground.data }, { on := 16, ground := Ground.chain }], guard := none }) (v := ?_) rfl (by kernel_rfl) (by kernel_rfl) (by kernel_rfl) (fun _ _ _ h => h) (Or.inl ⟨by rfl, ?_⟩) (by assumption) ?_
          rotate_left
          · intro v hSw
            try dsimp only at hSw
            go_simp
            with_reducible rfl
          try simp only [Act.put, List.setIfInBounds_toArray, List.set_cons_zero, List.set_cons_succ]
          refine wpAnyH_take (i := 23) (oi := { dst := some 107, op := Op.move (Operand.tmp 8), type := 25, pos := "law.go:129", after := #[{ on := 22, ground := Ground.guard }], guard := some (22, false) }) (v := ?_) rfl (by kernel_rfl) (by kernel_rfl) (by kernel_rfl) (fun _ _ _ h => h) (Or.inl ⟨by rfl, ?_⟩) (by assumption) ?_
          rotate_left
          · intro v hSw
            try dsimp only at hSw
            go_simp
            with_reducible rfl
          try simp only [Act.put, List.setIfInBounds_toArray, List.set_cons_zero, List.set_cons_succ]
          refine wpAnyH_take (i := 25) (oi := { dst := some 109, op := Op.fieldAddr 33 (Operand.tmp 9) 5, type := 0, pos := "law.go:129", after := #[{ on := 22, ground := Ground.guard }], guard := some (22, false) }) (v := ?_) rfl (by kernel_rfl) (by kernel_rfl) (by kernel_rfl) (fun _ _ _ h => h) (Or.inl ⟨by rfl, ?_⟩) (by assumption) ?_
          rotate_left
          · intro v hSw
            try dsimp only at hSw
            go_simp
            with_reducible rfl
          try simp only [Act.put, List.setIfInBounds_toArray, List.set_cons_zero, List.set_cons_succ]
          refine wpAnyH_take (i := 26) (oi := { dst := some 110, op := Op.load 31 (Operand.tmp 109), type := 31, pos := "law.go:129", after := #[{ on := 25, ground := Ground.data }, { on := 22, ground := Ground.guard }], guard := some (22, false) }) (v := ?_) rfl (by kernel_rfl) (by kernel_rfl) (by kernel_rfl) (fun _ _ _ h => h) (Or.inl ⟨by rfl, ?_⟩) (by assumption) ?_
          rotate_left
          · intro v hSw
            try dsimp only at hSw
            go_simp
            with_reducible rfl
          try simp only [Act.put, List.setIfInBounds_toArray, List.set_cons_zero, List.set_cons_succ]
          refine wpAnyH_ready (rs := [24]) (by kernel_rfl) (by simp) ?_
          refine AllReadyH.cons (o := { dst := some 108, op := Op.call { callee := Callee.value (Operand.func 14), args := #[Operand.tmp 107], argTypes := #[25] }, type := 31, pos := "law.go:129", after := #[{ on := 23, ground := Ground.data }, { on := 22, ground := Ground.chain }, { on := 22, ground := Ground.guard }], guard := some (22, false) }) rfl (fun K hK => ?_) AllReadyH.nil
          go_simp
          refine (acts_any DC4.out).mono ?_
          rintro e w5 ⟨rfl, rfl⟩
          go_wp2_with fail
          refine hK.out _ _ (⟨rcs_cells P4.out.b7, rcs_cells N4.out.b9⟩) (fun hHeld36 => ?_)
          clear hK K
          try simp only [Act.put, List.setIfInBounds_toArray, List.set_cons_zero, List.set_cons_succ]
          refine wpAnyH_take (i := 27) (oi := { dst := some 111, op := Op.binOp BinOp.neq 31 (Operand.tmp 108) (Operand.tmp 110) 31, type := 4, pos := "law.go:129", after := #[{ on := 24, ground := Ground.data }, { on := 26, ground := Ground.data }, { on := 22, ground := Ground.guard }], guard := some (22, false) }) (v := ?_) rfl (by kernel_rfl) (by kernel_rfl) (by kernel_rfl) (fun _ _ _ h => h) (Or.inl ⟨by rfl, ?_⟩) (by assumption) ?_
          rotate_left
          · intro v hSw
            try dsimp only at hSw
            go_simp
            with_reducible rfl
          try simp only [Act.put, List.setIfInBounds_toArray, List.set_cons_zero, List.set_cons_succ]
          refine wpAnyH_take (i := 28) (oi := { dst := some 112, op := Op.pick (Operand.tmp 106) (Operand.const (Value.bool true)) (Operand.tmp 111), type := 4, pos := "law.go:129", after := #[{ on := 22, ground := Ground.data }, { on := 27, ground := Ground.data }], guard := none }) (v := ?_) rfl (by kernel_rfl) (by kernel_rfl) (by kernel_rfl) (fun _ _ _ h => h) (Or.inl ⟨by rfl, ?_⟩) (by assumption) ?_
          rotate_left
          · intro v hSw
            try dsimp only at hSw
            go_simp
            with_reducible rfl
          try simp only [Act.put, List.setIfInBounds_toArray, List.set_cons_zero, List.set_cons_succ]
          refine wpAnyH_done (by kernel_rfl) ?_ _
          go_wp2_with fail
          go_meet
          exact ⟨rfl, P4.out, N4.out⟩
        case rest =>
          obtain ⟨rfl, hp, hn⟩ := hcut
          have PX := Lib.hid hp
          have NX := Lib.hid hn
          clear hp hn PM NM
          go_wp2_with (first | (refine wpList_load_mid rfl 33 (.tmp 9) rfl g9 0 rfl (rcs dc v9a (.slice A9 dc.wait.length c9)).toList _ (Box.range' (L := (rcs dc v9a (.slice A9 dc.wait.length c9)).toList) NX.out.b9) Try.underlying33 rfl infoRef ?_) | fail)
          refine (rflush_any NX.out.rc HDC.out).mono ?_
          rintro e w8 ⟨vx, vy, rfl, hr8, hk8⟩
          obtain ⟨hc1, hc2⟩ := hr8.c1
          have P8 := Lib.hid (PX.out.still hk8)
          clear hr8 hk8
          go_wp2_with (first | (refine wpList_store_box rfl 33 (.tmp 13) (.tmp 116) rfl w8.heap.size (rcs dc.flushS.1 vx vy).toList rfl rfl (Box.new w8 33 #[.slice none 0 0, .slice none 0 0, .bool false, .int .i64 0, .string ⟨#[]⟩, .int .u64 0]) rfl infoRef (rcs_one _ _ _ hc1 hc2) ?_; intro wy hby hky) | fail)
          have P9 : Pm w.heap.size w wy g7 b cp (rcs d va vb) d dc va vb k := by
            have k0 := (Kp.refl (fun _ => False) w8).alloc (.cells #[.slice none 0 0, .slice none 0 0, .bool false, .int .i64 0, .string ⟨#[]⟩, .int .u64 0] 33)
            exact P8.out.still (k0.trans_new hky (fun q e => .inl (by omega)))
          obtain ⟨FC, _, hdc, hfc⟩ := P9.ds
          have KQ := Lib.hid P9.kp
          have HFC := Lib.hid hfc
          have HFL := Lib.hid (flush_any hdc)
          clear hby hky P9 hdc hfc P8 PX NX
          refine HFL.out.mono ?_
          rintro e w9 ⟨rfl, _, hk9⟩
          have K9 := Lib.hid (KQ.out.trans (hk9.mono fun q _ e => (HFC.out q e).1))
          clear hk9 HFL
          generalize dc.flushS = fl at *
          go_wp2_with fail
          refine (wakes_true _).mono ?_
          rintro e w10 ⟨rfl, hk10⟩
          have K10 := Lib.hid (K9.out.trans hk10.of_false)
          clear hk10
          go_wp2_with fail
          go_ret
          exact ⟨rfl, K10.out⟩
end Go.Proofs.Ytbdiebkfkmjjiaa
