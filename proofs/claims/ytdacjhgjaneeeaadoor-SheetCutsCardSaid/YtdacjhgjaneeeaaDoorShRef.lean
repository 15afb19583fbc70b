/- The document's own sector of a sheet. Conditions: a number of 64 bits, at most 497 bytes. -/
import Derived.Test.YtdacjhgjaneeeaaDoorShNum
import Derived.Test.YtdacjhgjaneeeaaDoorShCut
import Derived.Test.YtdacjhgjaneeeaaDoorCrcSum
import Derived.Deep.RegionHeld
namespace Go.Proofs.YtdacjhgjaneeeaaDoor
open Go.RowKit

theorem add_str {P : Program} (a b c : List UInt8) (w : World) (h : a ++ b = c) (hs : a.length + b.length ≤ 100000) : (Op.stringOp .add ⟨a.toArray⟩ ⟨b.toArray⟩).run P w = .ok (.string ⟨c.toArray⟩) w := by
  rw [run_string_add_sum w ⟨a.toArray⟩ ⟨b.toArray⟩ (by show a.toArray.size + b.toArray.size ≤ _; simp; omega), text_cat, h]

set_option maxRecDepth 100000 in
set_option maxHeartbeats 4000000 in
theorem rput_any (q : Nat) (b : Bool) (tx : List UInt8) (w : World) (hq : q < 18446744073709551616) (hs : tx.length ≤ 497) :
    Calls Tryd.prog 9 #[.agg #[.int .u64 q, .bool b, .string ⟨tx.toArray⟩]] w fun e w' => e = .returned (.string ⟨(secL q b tx).toArray⟩) ∧ Kp (fun _ => False) w w' := by
  have hw1 : IntKind.u64.wrap (tx.length : Int) = tx.length := IntWalk.u64_in _ (by omega)
  obtain ⟨c, hc⟩ : ∃ c : Nat, tx.length + c = 497 := ⟨497 - tx.length, by omega⟩
  cases b
  · have B0 := Lib.hid (Box.new w 24 #[.int .u64 q, .bool false, .string ⟨tx.toArray⟩])
    have K0 := Lib.hid ((Kp.refl (fun _ => False) w).alloc (.cells #[.int .u64 q, .bool false, .string ⟨tx.toArray⟩] 24))
    go_enter Tryd.func9, Tryd.ntmps9
    go_upto_region 4 with fail
    generalize w.alloc (.cells #[.int .u64 q, .bool false, .string ⟨tx.toArray⟩] 24) = w0 at *
    refine wp_region_held_drew (S := fun v => v.cell? ⟨w.heap.size, 0, none⟩ = some (.int .u64 q) ∧ v.cell? ⟨w.heap.size, 1, none⟩ = some (.bool false) ∧ v.cell? ⟨w.heap.size, 2, none⟩ = some (.string ⟨tx.toArray⟩)) (by kernel_rfl) (⟨B0.out.cell 0, B0.out.cell 1, B0.out.cell 2⟩) (fun hHeld => ?_)
    refine wpAnyH_take (i := 0) (oi := { dst := some 8, op := Op.fieldAddr 24 (Operand.tmp 1) 0, type := 0, pos := "ref.go:29", after := #[], guard := none }) (v := ?_) rfl (by kernel_rfl) (by kernel_rfl) (by kernel_rfl) (fun _ _ _ h => h) (Or.inl ⟨by rfl, ?_⟩) (by assumption) ?_
    rotate_left
    · intro v hSw
      try dsimp only at hSw
      go_simp
      with_reducible rfl
    try simp only [Act.put, List.setIfInBounds_toArray, List.set_cons_zero, List.set_cons_succ]
    refine wpAnyH_take (i := 1) (oi := { dst := some 9, op := Op.load 22 (Operand.tmp 8), type := 22, pos := "ref.go:29", after := #[{ on := 0, ground := Ground.data }], guard := none }) (v := ?_) rfl (by kernel_rfl) (by kernel_rfl) (by kernel_rfl) (fun _ _ _ h => h) (Or.inl ⟨by rfl, ?_⟩) (by assumption) ?_
    rotate_left
    · intro v hSw
      try dsimp only at hSw
      go_simp
      with_reducible rfl
    try simp only [Act.put, List.setIfInBounds_toArray, List.set_cons_zero, List.set_cons_succ]
    refine wpAnyH_take (i := 3) (oi := { dst := some 11, op := Op.move (Operand.tmp 3), type := 22, pos := "ref.go:29", after := #[], guard := none }) (v := ?_) rfl (by kernel_rfl) (by kernel_rfl) (by kernel_rfl) (fun _ _ _ h => h) (Or.inl ⟨by rfl, ?_⟩) (by assumption) ?_
    rotate_left
    · intro v hSw
      try dsimp only at hSw
      go_simp
      with_reducible rfl
    try simp only [Act.put, List.setIfInBounds_toArray, List.set_cons_zero, List.set_cons_succ]
    refine wpAnyH_take (i := 6) (oi := { dst := some 14, op := Op.fieldAddr 24 (Operand.tmp 1) 2, type := 0, pos := "ref.go:29", after := #[], guard := none }) (v := ?_) rfl (by kernel_rfl) (by kernel_rfl) (by kernel_rfl) (fun _ _ _ h => h) (Or.inl ⟨by rfl, ?_⟩) (by assumption) ?_
    rotate_left
    · intro v hSw
      try dsimp only at hSw
      go_simp
      with_reducible rfl
    try simp only [Act.put, List.setIfInBounds_toArray, List.set_cons_zero, List.set_cons_succ]
    refine wpAnyH_take (i := 7) (oi := { dst := some 15, op := Op.load 9 (Operand.tmp 14), type := 9, pos := "ref.go:29", after := #[{ on := 6, ground := Ground.data }], guard := none }) (v := ?_) rfl (by kernel_rfl) (by kernel_rfl) (by kernel_rfl) (fun _ _ _ h => h) (Or.inl ⟨by rfl, ?_⟩) (by assumption) ?_
    rotate_left
    · intro v hSw
      try dsimp only at hSw
      go_simp
      with_reducible rfl
    try simp only [Act.put, List.setIfInBounds_toArray, List.set_cons_zero, List.set_cons_succ]
    refine wpAnyH_take (i := 8) (oi := { dst := some 16, op := Op.call { callee := Callee.builtin Builtin.len, args := #[Operand.tmp 15], argTypes := #[9] }, type := 3, pos := "ref.go:29", after := #[{ on := 7, ground := Ground.data }], guard := none }) (v := ?_) rfl (by kernel_rfl) (by kernel_rfl) (by kernel_rfl) (fun _ _ _ h => h) (Or.inl ⟨by rfl, ?_⟩) (by assumption) ?_
    rotate_left
    · intro v hSw
      try dsimp only at hSw
      go_simp
      with_reducible rfl
    try simp only [Act.put, List.setIfInBounds_toArray, List.set_cons_zero, List.set_cons_succ]
    refine wpAnyH_take (i := 9) (oi := { dst := some 17, op := Op.convert 3 22 (Operand.tmp 16), type := 22, pos := "ref.go:29", after := #[{ on := 8, ground := Ground.data }], guard := none }) (v := ?_) rfl (by kernel_rfl) (by kernel_rfl) (by kernel_rfl) (fun _ _ _ h => h) (Or.inl ⟨by rfl, ?_⟩) (by assumption) ?_
    rotate_left
    · intro v hSw
      try dsimp only at hSw
      go_simp
      with_reducible rfl
    try simp only [Act.put, List.setIfInBounds_toArray, List.set_cons_zero, List.set_cons_succ]
    refine wpAnyH_take (i := 12) (oi := { dst := some 20, op := Op.fieldAddr 24 (Operand.tmp 1) 2, type := 0, pos := "ref.go:29", after := #[], guard := none }) (v := ?_) rfl (by kernel_rfl) (by kernel_rfl) (by kernel_rfl) (fun _ _ _ h => h) (Or.inl ⟨by rfl, ?_⟩) (by assumption) ?_
    rotate_left
    · intro v hSw
      try dsimp only at hSw
      go_simp
      with_reducible rfl
    try simp only [Act.put, List.setIfInBounds_toArray, List.set_cons_zero, List.set_cons_succ]
    refine wpAnyH_take (i := 13) (oi := { dst := some 21, op := Op.load 9 (Operand.tmp 20), type := 9, pos := "ref.go:29", after := #[{ on := 12, ground := Ground.data }], guard := none }) (v := ?_) rfl (by kernel_rfl) (by kernel_rfl) (by kernel_rfl) (fun _ _ _ h => h) (Or.inl ⟨by rfl, ?_⟩) (by assumption) ?_
    rotate_left
    · intro v hSw
      try dsimp only at hSw
      go_simp
      with_reducible rfl
    try simp only [Act.put, List.setIfInBounds_toArray, List.set_cons_zero, List.set_cons_succ]
    refine wpAnyH_ready (rs := [2]) (by kernel_rfl) (by simp) ?_
    refine AllReadyH.cons (o := { dst := some 10, op := Op.call { callee := Callee.value (Operand.func 23), args := #[Operand.const (Value.int IntKind.i64 8), Operand.tmp 9], argTypes := #[3, 22] }, type := 9, pos := "ref.go:29", after := #[{ on := 1, ground := Ground.data }], guard := none }) rfl (fun K hK => ?_) AllReadyH.nil
    go_simp
    have hcall := numS_any 8 q w0.drew (by decide) hq
    try rw [show ((8 : Nat) : Int) = 8 from rfl] at hcall
    try rw [show ((1 : Nat) : Int) = 1 from rfl] at hcall
    refine hcall.mono ?_
    clear hcall
    rintro e w1 ⟨rfl, hk⟩
    have B1 := Lib.hid ((B0.out.drew).kp hk (fun e => e))
    have K1 := Lib.hid ((K0.out.drew).trans hk)
    obtain ⟨x1, hx1⟩ : ∃ x, beN 8 q = x := ⟨_, rfl⟩
    rw [hx1]
    have HX1 := Lib.hid hx1
    clear hk hx1
    go_wp2_with fail
    refine hK.out _ _ (⟨B1.out.cell 0, B1.out.cell 1, B1.out.cell 2⟩) (fun hHeld1 => ?_)
    clear hK K
    try simp only [Act.put, List.setIfInBounds_toArray, List.set_cons_zero, List.set_cons_succ]
    refine wpAnyH_ready (rs := [4]) (by kernel_rfl) (by simp) ?_
    refine AllReadyH.cons (o := { dst := some 12, op := Op.call { callee := Callee.value (Operand.func 23), args := #[Operand.const (Value.int IntKind.i64 1), Operand.tmp 11], argTypes := #[3, 22] }, type := 9, pos := "ref.go:29", after := #[{ on := 3, ground := Ground.data }, { on := 2, ground := Ground.chain }], guard := none }) rfl (fun K hK => ?_) AllReadyH.nil
    go_simp
    have hcall := numS_any 1 1 w1 (by decide) (by decide)
    try rw [show ((1 : Nat) : Int) = 1 from rfl] at hcall
    try rw [show ((1 : Nat) : Int) = 1 from rfl] at hcall
    refine hcall.mono ?_
    clear hcall
    rintro e w2 ⟨rfl, hk⟩
    have B2 := Lib.hid (B1.out.kp hk (fun e => e))
    have K2 := Lib.hid (K1.out.trans hk)
    obtain ⟨x2, hx2⟩ : ∃ x, beN 1 1 = x := ⟨_, rfl⟩
    rw [hx2]
    have HX2 := Lib.hid hx2
    clear hk hx2
    go_wp2_with fail
    refine hK.out _ _ (⟨B2.out.cell 0, B2.out.cell 1, B2.out.cell 2⟩) (fun hHeld2 => ?_)
    clear hK K
    try simp only [Act.put, List.setIfInBounds_toArray, List.set_cons_zero, List.set_cons_succ]
    have l1 : x1.length = 8 := by rw [← HX1.out]; exact beN_length _ _
    have l2 : x2.length = 1 := by rw [← HX2.out]; exact beN_length _ _
    obtain ⟨x12, h12⟩ : ∃ x, x1 ++ x2 = x := ⟨_, rfl⟩
    have l12 : x12.length = 9 := by rw [← h12, List.length_append, l1, l2]
    have hadd1 := fun w => add_str (P := Tryd.prog) x1 x2 x12 w h12 (by omega)
    have H12 := Lib.hid h12
    have L12 := Lib.hid l12
    clear l1 l2 l12 h12
    refine wpAnyH_take (i := 5) (oi := { dst := some 13, op := Op.binOp BinOp.add 9 (Operand.tmp 10) (Operand.tmp 12) 9, type := 9, pos := "ref.go:29", after := #[{ on := 2, ground := Ground.data }, { on := 4, ground := Ground.data }], guard := none }) (v := ?_) rfl (by kernel_rfl) (by kernel_rfl) (by kernel_rfl) (fun _ _ _ h => h) (Or.inl ⟨by rfl, ?_⟩) (by assumption) ?_
    rotate_left
    · intro v hSw
      try dsimp only at hSw
      go_simp
      with_reducible rfl
    try simp only [Act.put, List.setIfInBounds_toArray, List.set_cons_zero, List.set_cons_succ]
    refine wpAnyH_ready (rs := [10]) (by kernel_rfl) (by simp) ?_
    refine AllReadyH.cons (o := { dst := some 18, op := Op.call { callee := Callee.value (Operand.func 23), args := #[Operand.const (Value.int IntKind.i64 2), Operand.tmp 17], argTypes := #[3, 22] }, type := 9, pos := "ref.go:29", after := #[{ on := 9, ground := Ground.data }, { on := 4, ground := Ground.chain }], guard := none }) rfl (fun K hK => ?_) AllReadyH.nil
    go_simp
    have hcall := numS_any 2 tx.length w2 (by decide) (by omega)
    try rw [show ((2 : Nat) : Int) = 2 from rfl] at hcall
    try rw [show ((1 : Nat) : Int) = 1 from rfl] at hcall
    refine hcall.mono ?_
    clear hcall
    rintro e w3 ⟨rfl, hk⟩
    have B3 := Lib.hid (B2.out.kp hk (fun e => e))
    have K3 := Lib.hid (K2.out.trans hk)
    obtain ⟨x3, hx3⟩ : ∃ x, beN 2 tx.length = x := ⟨_, rfl⟩
    rw [hx3]
    have HX3 := Lib.hid hx3
    clear hk hx3
    go_wp2_with fail
    refine hK.out _ _ (⟨B3.out.cell 0, B3.out.cell 1, B3.out.cell 2⟩) (fun hHeld3 => ?_)
    clear hK K
    try simp only [Act.put, List.setIfInBounds_toArray, List.set_cons_zero, List.set_cons_succ]
    have l3 : x3.length = 2 := by rw [← HX3.out]; exact beN_length _ _
    have l12 := L12.out
    obtain ⟨x13, h13⟩ : ∃ x, x12 ++ x3 = x := ⟨_, rfl⟩
    obtain ⟨x14, h14⟩ : ∃ x, x13 ++ tx = x := ⟨_, rfl⟩
    have l13 : x13.length = 11 := by rw [← h13, List.length_append, l12, l3]
    have l14 : x14.length = 11 + tx.length := by rw [← h14, List.length_append, l13]
    have hadd2 := fun w => add_str (P := Tryd.prog) x12 x3 x13 w h13 (by omega)
    have hadd3 := fun w => add_str (P := Tryd.prog) x13 tx x14 w h14 (by omega)
    have H13 := Lib.hid h13
    have H14 := Lib.hid h14
    have L14 := Lib.hid l14
    clear l3 l12 l13 l14 h13 h14
    refine wpAnyH_take (i := 11) (oi := { dst := some 19, op := Op.binOp BinOp.add 9 (Operand.tmp 13) (Operand.tmp 18) 9, type := 9, pos := "ref.go:29", after := #[{ on := 5, ground := Ground.data }, { on := 10, ground := Ground.data }], guard := none }) (v := ?_) rfl (by kernel_rfl) (by kernel_rfl) (by kernel_rfl) (fun _ _ _ h => h) (Or.inl ⟨by rfl, ?_⟩) (by assumption) ?_
    rotate_left
    · intro v hSw
      try dsimp only at hSw
      go_simp
      with_reducible rfl
    try simp only [Act.put, List.setIfInBounds_toArray, List.set_cons_zero, List.set_cons_succ]
    refine wpAnyH_take (i := 14) (oi := { dst := some 22, op := Op.binOp BinOp.add 9 (Operand.tmp 19) (Operand.tmp 21) 9, type := 9, pos := "ref.go:29", after := #[{ on := 11, ground := Ground.data }, { on := 13, ground := Ground.data }], guard := none }) (v := ?_) rfl (by kernel_rfl) (by kernel_rfl) (by kernel_rfl) (fun _ _ _ h => h) (Or.inl ⟨by rfl, ?_⟩) (by assumption) ?_
    rotate_left
    · intro v hSw
      try dsimp only at hSw
      go_simp
      with_reducible rfl
    try simp only [Act.put, List.setIfInBounds_toArray, List.set_cons_zero, List.set_cons_succ]
    refine wpAnyH_take (i := 15) (oi := { dst := some 4, op := Op.assign (Operand.tmp 22), type := 9, pos := "ref.go:29", after := #[{ on := 14, ground := Ground.data }, { on := 10, ground := Ground.chain }, { on := 0, ground := Ground.phase }, { on := 1, ground := Ground.phase }, { on := 2, ground := Ground.phase }, { on := 3, ground := Ground.phase }, { on := 4, ground := Ground.phase }, { on := 5, ground := Ground.phase }, { on := 6, ground := Ground.phase }, { on := 7, ground := Ground.phase }, { on := 8, ground := Ground.phase }, { on := 9, ground := Ground.phase }, { on := 10, ground := Ground.phase }, { on := 11, ground := Ground.phase }, { on := 12, ground := Ground.phase }, { on := 13, ground := Ground.phase }, { on := 14, ground := Ground.phase }], guard := none }) (v := ?_) rfl (by kernel_rfl) (by kernel_rfl) (by kernel_rfl) (fun _ _ _ h => h) (Or.inl ⟨by rfl, ?_⟩) (by assumption) ?_
    rotate_left
    · intro v hSw
      try dsimp only at hSw
      go_simp
      with_reducible rfl
    try simp only [Act.put, List.setIfInBounds_toArray, List.set_cons_zero, List.set_cons_succ]
    refine wpAnyH_done (by kernel_rfl) ?_ _
    clear hadd1 hadd2 hadd3
    have HBL := Lib.hid (show x14 ++ List.replicate (497 - tx.length) 0 = bodyL q false tx by rw [← H14.out, ← H13.out, ← H12.out, ← HX1.out, ← HX2.out, ← HX3.out]; rfl)
    clear H12 H13 H14 HX1 HX2 HX3 B0 B1 B2 B3 K0 K1 K2
    go_wp2_with fail
    go_loopw [4] (fun s4 wr => ∃ j : Nat, j ≤ c ∧ s4 = .string ⟨(x14 ++ List.replicate j 0).toArray⟩ ∧ Kp (fun _ => False) w wr) (fun s4 _ => 508 - strLen s4)
    case atStart => exact ⟨0, Nat.zero_le _, by simp, K3.out⟩
    case round =>
      obtain ⟨j, hj, rfl, hk⟩ := hrel
      have KW := Lib.hid hk
      clear hk
      obtain ⟨y, hy⟩ : ∃ y, x14 ++ List.replicate j 0 = y := ⟨_, rfl⟩
      have hyl : y.length = 11 + tx.length + j := by rw [← hy, List.length_append, L14.out, List.length_replicate]
      by_cases hlt : j < c
      · have hd : decide ((y.length : Int) < 508) = true := by simp; omega
        obtain ⟨z, hz⟩ : ∃ z, y ++ [0] = z := ⟨_, rfl⟩
        have hadd := fun w => add_str (P := Tryd.prog) y [0] z w hz (by simp; omega)
        have hzl : z.length = y.length + 1 := by rw [← hz]; simp
        have hzz : z = x14 ++ List.replicate (j + 1) 0 := by rw [← hz, ← hy, List.replicate_succ', List.append_assoc]
        have HZ := Lib.hid hzz
        have HYL := Lib.hid hyl
        have HZL := Lib.hid hzl
        rw [hy]
        have hsz : (⟨y.toArray⟩ : ByteArray).size = y.length := by show y.toArray.size = _; simp
        clear hzz hyl hzl hy hz
        go_wp2_with fail
        go_roundw
        case rel => exact ⟨j + 1, by omega, by rw [HZ.out], KW.out⟩
        case measure =>
          simp only [strLen]
          show 508 - z.toArray.size < 508 - y.toArray.size
          have h1 := HZL.out
          have h2 := HYL.out
          simp
          omega
      · obtain rfl : j = c := by omega
        have hd : decide ((y.length : Int) < 508) = false := by simp; omega
        have hcc : j = 497 - tx.length := by omega
        have hyb : y = bodyL q false tx := by rw [← hy, ← HBL.out, hcc]
        have hyl8 : y.length = 508 := by omega
        have HYB := Lib.hid hyb
        have HYL := Lib.hid hyl8
        rw [hy]
        have hsz : (⟨y.toArray⟩ : ByteArray).size = y.length := by show y.toArray.size = _; simp
        clear hyl hy hyb hcc hyl8
        go_wp2_with fail
        refine (ref_any ⟨y.toArray⟩ wr (by rw [hsz, HYL.out]; decide)).mono ?_
        rintro e w5 ⟨rfl, rfl⟩
        have hcl := crcN_lt y
        rw [show (⟨y.toArray⟩ : ByteArray).data.toList = y from by simp]
        obtain ⟨m, hm⟩ : ∃ m, crcN y = m := ⟨_, rfl⟩
        rw [hm] at hcl ⊢
        have HM := Lib.hid hm
        clear hm
        have hrd : Rd (wr.alloc (.cells #[.int .u8 ((m : Int) % 256), .int .u8 ((m : Int) / 256 % 256), .int .u8 ((m : Int) / 65536 % 256), .int .u8 ((m : Int) / 16777216)] 5)) (some ⟨wr.heap.size, 0, none⟩) (le4 m) := by
          refine .inr ⟨_, 0, rfl, fun j u hu => ?_⟩
          rw [(Box.new wr _ _).cell]
          rcases j with _ | _ | _ | _ | j <;> simp [le4] at hu ⊢ <;> subst hu <;> simp
          omega
        have hcv := hrd.text (P := Tryd.prog) 26 9 5 4 Tryd.underlying26 Tryd.underlying5 Tryd.underlying9
        rw [show (le4 m).length = 4 from rfl] at hcv
        have hl4 : (le4 m).length = 4 := rfl
        have HL4 := Lib.hid hl4
        obtain ⟨l4, hl4e⟩ : ∃ l4, le4 m = l4 := ⟨_, rfl⟩
        rw [hl4e] at hcv HL4
        obtain ⟨z, hz⟩ : ∃ z, y ++ l4 = z := ⟨_, rfl⟩
        have hadd := fun w => add_str (P := Tryd.prog) y l4 z w hz (by rw [HYL.out, HL4.out]; decide)
        have hfin : z = secL q false tx := by rw [← hz, ← hl4e, ← HM.out, HYB.out]; rfl
        have HF := Lib.hid hfin
        clear hrd hfin hl4 hl4e hz
        go_wp2_with fail
        go_ret
        rw [← HF.out]
        exact ⟨rfl, KW.out.alloc _⟩
  · have B0 := Lib.hid (Box.new w 24 #[.int .u64 q, .bool true, .string ⟨tx.toArray⟩])
    have K0 := Lib.hid ((Kp.refl (fun _ => False) w).alloc (.cells #[.int .u64 q, .bool true, .string ⟨tx.toArray⟩] 24))
    go_enter Tryd.func9, Tryd.ntmps9
    go_upto_region 4 with fail
    generalize w.alloc (.cells #[.int .u64 q, .bool true, .string ⟨tx.toArray⟩] 24) = w0 at *
    refine wp_region_held_drew (S := fun v => v.cell? ⟨w.heap.size, 0, none⟩ = some (.int .u64 q) ∧ v.cell? ⟨w.heap.size, 1, none⟩ = some (.bool true) ∧ v.cell? ⟨w.heap.size, 2, none⟩ = some (.string ⟨tx.toArray⟩)) (by kernel_rfl) (⟨B0.out.cell 0, B0.out.cell 1, B0.out.cell 2⟩) (fun hHeld => ?_)
    refine wpAnyH_take (i := 0) (oi := { dst := some 8, op := Op.fieldAddr 24 (Operand.tmp 1) 0, type := 0, pos := "ref.go:29", after := #[], guard := none }) (v := ?_) rfl (by kernel_rfl) (by kernel_rfl) (by kernel_rfl) (fun _ _ _ h => h) (Or.inl ⟨by rfl, ?_⟩) (by assumption) ?_
    rotate_left
    · intro v hSw
      try dsimp only at hSw
      go_simp
      with_reducible rfl
    try simp only [Act.put, List.setIfInBounds_toArray, List.set_cons_zero, List.set_cons_succ]
    refine wpAnyH_take (i := 1) (oi := { dst := some 9, op := Op.load 22 (Operand.tmp 8), type := 22, pos := "ref.go:29", after := #[{ on := 0, ground := Ground.data }], guard := none }) (v := ?_) rfl (by kernel_rfl) (by kernel_rfl) (by kernel_rfl) (fun _ _ _ h => h) (Or.inl ⟨by rfl, ?_⟩) (by assumption) ?_
    rotate_left
    · intro v hSw
      try dsimp only at hSw
      go_simp
      with_reducible rfl
    try simp only [Act.put, List.setIfInBounds_toArray, List.set_cons_zero, List.set_cons_succ]
    refine wpAnyH_take (i := 3) (oi := { dst := some 11, op := Op.move (Operand.tmp 3), type := 22, pos := "ref.go:29", after := #[], guard := none }) (v := ?_) rfl (by kernel_rfl) (by kernel_rfl) (by kernel_rfl) (fun _ _ _ h => h) (Or.inl ⟨by rfl, ?_⟩) (by assumption) ?_
    rotate_left
    · intro v hSw
      try dsimp only at hSw
      go_simp
      with_reducible rfl
    try simp only [Act.put, List.setIfInBounds_toArray, List.set_cons_zero, List.set_cons_succ]
    refine wpAnyH_take (i := 6) (oi := { dst := some 14, op := Op.fieldAddr 24 (Operand.tmp 1) 2, type := 0, pos := "ref.go:29", after := #[], guard := none }) (v := ?_) rfl (by kernel_rfl) (by kernel_rfl) (by kernel_rfl) (fun _ _ _ h => h) (Or.inl ⟨by rfl, ?_⟩) (by assumption) ?_
    rotate_left
    · intro v hSw
      try dsimp only at hSw
      go_simp
      with_reducible rfl
    try simp only [Act.put, List.setIfInBounds_toArray, List.set_cons_zero, List.set_cons_succ]
    refine wpAnyH_take (i := 7) (oi := { dst := some 15, op := Op.load 9 (Operand.tmp 14), type := 9, pos := "ref.go:29", after := #[{ on := 6, ground := Ground.data }], guard := none }) (v := ?_) rfl (by kernel_rfl) (by kernel_rfl) (by kernel_rfl) (fun _ _ _ h => h) (Or.inl ⟨by rfl, ?_⟩) (by assumption) ?_
    rotate_left
    · intro v hSw
      try dsimp only at hSw
      go_simp
      with_reducible rfl
    try simp only [Act.put, List.setIfInBounds_toArray, List.set_cons_zero, List.set_cons_succ]
    refine wpAnyH_take (i := 8) (oi := { dst := some 16, op := Op.call { callee := Callee.builtin Builtin.len, args := #[Operand.tmp 15], argTypes := #[9] }, type := 3, pos := "ref.go:29", after := #[{ on := 7, ground := Ground.data }], guard := none }) (v := ?_) rfl (by kernel_rfl) (by kernel_rfl) (by kernel_rfl) (fun _ _ _ h => h) (Or.inl ⟨by rfl, ?_⟩) (by assumption) ?_
    rotate_left
    · intro v hSw
      try dsimp only at hSw
      go_simp
      with_reducible rfl
    try simp only [Act.put, List.setIfInBounds_toArray, List.set_cons_zero, List.set_cons_succ]
    refine wpAnyH_take (i := 9) (oi := { dst := some 17, op := Op.convert 3 22 (Operand.tmp 16), type := 22, pos := "ref.go:29", after := #[{ on := 8, ground := Ground.data }], guard := none }) (v := ?_) rfl (by kernel_rfl) (by kernel_rfl) (by kernel_rfl) (fun _ _ _ h => h) (Or.inl ⟨by rfl, ?_⟩) (by assumption) ?_
    rotate_left
    · intro v hSw
      try dsimp only at hSw
      go_simp
      with_reducible rfl
    try simp only [Act.put, List.setIfInBounds_toArray, List.set_cons_zero, List.set_cons_succ]
    refine wpAnyH_take (i := 12) (oi := { dst := some 20, op := Op.fieldAddr 24 (Operand.tmp 1) 2, type := 0, pos := "ref.go:29", after := #[], guard := none }) (v := ?_) rfl (by kernel_rfl) (by kernel_rfl) (by kernel_rfl) (fun _ _ _ h => h) (Or.inl ⟨by rfl, ?_⟩) (by assumption) ?_
    rotate_left
    · intro v hSw
      try dsimp only at hSw
      go_simp
      with_reducible rfl
    try simp only [Act.put, List.setIfInBounds_toArray, List.set_cons_zero, List.set_cons_succ]
    refine wpAnyH_take (i := 13) (oi := { dst := some 21, op := Op.load 9 (Operand.tmp 20), type := 9, pos := "ref.go:29", after := #[{ on := 12, ground := Ground.data }], guard := none }) (v := ?_) rfl (by kernel_rfl) (by kernel_rfl) (by kernel_rfl) (fun _ _ _ h => h) (Or.inl ⟨by rfl, ?_⟩) (by assumption) ?_
    rotate_left
    · intro v hSw
      try dsimp only at hSw
      go_simp
      with_reducible rfl
    try simp only [Act.put, List.setIfInBounds_toArray, List.set_cons_zero, List.set_cons_succ]
    refine wpAnyH_ready (rs := [2]) (by kernel_rfl) (by simp) ?_
    refine AllReadyH.cons (o := { dst := some 10, op := Op.call { callee := Callee.value (Operand.func 23), args := #[Operand.const (Value.int IntKind.i64 8), Operand.tmp 9], argTypes := #[3, 22] }, type := 9, pos := "ref.go:29", after := #[{ on := 1, ground := Ground.data }], guard := none }) rfl (fun K hK => ?_) AllReadyH.nil
    go_simp
    have hcall := numS_any 8 q w0.drew (by decide) hq
    try rw [show ((8 : Nat) : Int) = 8 from rfl] at hcall
    try rw [show ((2 : Nat) : Int) = 2 from rfl] at hcall
    refine hcall.mono ?_
    clear hcall
    rintro e w1 ⟨rfl, hk⟩
    have B1 := Lib.hid ((B0.out.drew).kp hk (fun e => e))
    have K1 := Lib.hid ((K0.out.drew).trans hk)
    obtain ⟨x1, hx1⟩ : ∃ x, beN 8 q = x := ⟨_, rfl⟩
    rw [hx1]
    have HX1 := Lib.hid hx1
    clear hk hx1
    go_wp2_with fail
    refine hK.out _ _ (⟨B1.out.cell 0, B1.out.cell 1, B1.out.cell 2⟩) (fun hHeld4 => ?_)
    clear hK K
    try simp only [Act.put, List.setIfInBounds_toArray, List.set_cons_zero, List.set_cons_succ]
    refine wpAnyH_ready (rs := [4]) (by kernel_rfl) (by simp) ?_
    refine AllReadyH.cons (o := { dst := some 12, op := Op.call { callee := Callee.value (Operand.func 23), args := #[Operand.const (Value.int IntKind.i64 1), Operand.tmp 11], argTypes := #[3, 22] }, type := 9, pos := "ref.go:29", after := #[{ on := 3, ground := Ground.data }, { on := 2, ground := Ground.chain }], guard := none }) rfl (fun K hK => ?_) AllReadyH.nil
    go_simp
    have hcall := numS_any 1 2 w1 (by decide) (by decide)
    try rw [show ((1 : Nat) : Int) = 1 from rfl] at hcall
    try rw [show ((2 : Nat) : Int) = 2 from rfl] at hcall
    refine hcall.mono ?_
    clear hcall
    rintro e w2 ⟨rfl, hk⟩
    have B2 := Lib.hid (B1.out.kp hk (fun e => e))
    have K2 := Lib.hid (K1.out.trans hk)
    obtain ⟨x2, hx2⟩ : ∃ x, beN 1 2 = x := ⟨_, rfl⟩
    rw [hx2]
    have HX2 := Lib.hid hx2
    clear hk hx2
    go_wp2_with fail
    refine hK.out _ _ (⟨B2.out.cell 0, B2.out.cell 1, B2.out.cell 2⟩) (fun hHeld5 => ?_)
    clear hK K
    try simp only [Act.put, List.setIfInBounds_toArray, List.set_cons_zero, List.set_cons_succ]
    have l1 : x1.length = 8 := by rw [← HX1.out]; exact beN_length _ _
    have l2 : x2.length = 1 := by rw [← HX2.out]; exact beN_length _ _
    obtain ⟨x12, h12⟩ : ∃ x, x1 ++ x2 = x := ⟨_, rfl⟩
    have l12 : x12.length = 9 := by rw [← h12, List.length_append, l1, l2]
    have hadd1 := fun w => add_str (P := Tryd.prog) x1 x2 x12 w h12 (by omega)
    have H12 := Lib.hid h12
    have L12 := Lib.hid l12
    clear l1 l2 l12 h12
    refine wpAnyH_take (i := 5) (oi := { dst := some 13, op := Op.binOp BinOp.add 9 (Operand.tmp 10) (Operand.tmp 12) 9, type := 9, pos := "ref.go:29", after := #[{ on := 2, ground := Ground.data }, { on := 4, ground := Ground.data }], guard := none }) (v := ?_) rfl (by kernel_rfl) (by kernel_rfl) (by kernel_rfl) (fun _ _ _ h => h) (Or.inl ⟨by rfl, ?_⟩) (by assumption) ?_
    rotate_left
    · intro v hSw
      try dsimp only at hSw
      go_simp
      with_reducible rfl
    try simp only [Act.put, List.setIfInBounds_toArray, List.set_cons_zero, List.set_cons_succ]
    refine wpAnyH_ready (rs := [10]) (by kernel_rfl) (by simp) ?_
    refine AllReadyH.cons (o := { dst := some 18, op := Op.call { callee := Callee.value (Operand.func 23), args := #[Operand.const (Value.int IntKind.i64 2), Operand.tmp 17], argTypes := #[3, 22] }, type := 9, pos := "ref.go:29", after := #[{ on := 9, ground := Ground.data }, { on := 4, ground := Ground.chain }], guard := none }) rfl (fun K hK => ?_) AllReadyH.nil
    go_simp
    have hcall := numS_any 2 tx.length w2 (by decide) (by omega)
    try rw [show ((2 : Nat) : Int) = 2 from rfl] at hcall
    try rw [show ((2 : Nat) : Int) = 2 from rfl] at hcall
    refine hcall.mono ?_
    clear hcall
    rintro e w3 ⟨rfl, hk⟩
    have B3 := Lib.hid (B2.out.kp hk (fun e => e))
    have K3 := Lib.hid (K2.out.trans hk)
    obtain ⟨x3, hx3⟩ : ∃ x, beN 2 tx.length = x := ⟨_, rfl⟩
    rw [hx3]
    have HX3 := Lib.hid hx3
    clear hk hx3
    go_wp2_with fail
    refine hK.out _ _ (⟨B3.out.cell 0, B3.out.cell 1, B3.out.cell 2⟩) (fun hHeld6 => ?_)
    clear hK K
    try simp only [Act.put, List.setIfInBounds_toArray, List.set_cons_zero, List.set_cons_succ]
    have l3 : x3.length = 2 := by rw [← HX3.out]; exact beN_length _ _
    have l12 := L12.out
    obtain ⟨x13, h13⟩ : ∃ x, x12 ++ x3 = x := ⟨_, rfl⟩
    obtain ⟨x14, h14⟩ : ∃ x, x13 ++ tx = x := ⟨_, rfl⟩
    have l13 : x13.length = 11 := by rw [← h13, List.length_append, l12, l3]
    have l14 : x14.length = 11 + tx.length := by rw [← h14, List.length_append, l13]
    have hadd2 := fun w => add_str (P := Tryd.prog) x12 x3 x13 w h13 (by omega)
    have hadd3 := fun w => add_str (P := Tryd.prog) x13 tx x14 w h14 (by omega)
    have H13 := Lib.hid h13
    have H14 := Lib.hid h14
    have L14 := Lib.hid l14
    clear l3 l12 l13 l14 h13 h14
    refine wpAnyH_take (i := 11) (oi := { dst := some 19, op := Op.binOp BinOp.add 9 (Operand.tmp 13) (Operand.tmp 18) 9, type := 9, pos := "ref.go:29", after := #[{ on := 5, ground := Ground.data }, { on := 10, ground := Ground.data }], guard := none }) (v := ?_) rfl (by kernel_rfl) (by kernel_rfl) (by kernel_rfl) (fun _ _ _ h => h) (Or.inl ⟨by rfl, ?_⟩) (by assumption) ?_
    rotate_left
    · intro v hSw
      try dsimp only at hSw
      go_simp
      with_reducible rfl
    try simp only [Act.put, List.setIfInBounds_toArray, List.set_cons_zero, List.set_cons_succ]
    refine wpAnyH_take (i := 14) (oi := { dst := some 22, op := Op.binOp BinOp.add 9 (Operand.tmp 19) (Operand.tmp 21) 9, type := 9, pos := "ref.go:29", after := #[{ on := 11, ground := Ground.data }, { on := 13, ground := Ground.data }], guard := none }) (v := ?_) rfl (by kernel_rfl) (by kernel_rfl) (by kernel_rfl) (fun _ _ _ h => h) (Or.inl ⟨by rfl, ?_⟩) (by assumption) ?_
    rotate_left
    · intro v hSw
      try dsimp only at hSw
      go_simp
      with_reducible rfl
    try simp only [Act.put, List.setIfInBounds_toArray, List.set_cons_zero, List.set_cons_succ]
    refine wpAnyH_take (i := 15) (oi := { dst := some 4, op := Op.assign (Operand.tmp 22), type := 9, pos := "ref.go:29", after := #[{ on := 14, ground := Ground.data }, { on := 10, ground := Ground.chain }, { on := 0, ground := Ground.phase }, { on := 1, ground := Ground.phase }, { on := 2, ground := Ground.phase }, { on := 3, ground := Ground.phase }, { on := 4, ground := Ground.phase }, { on := 5, ground := Ground.phase }, { on := 6, ground := Ground.phase }, { on := 7, ground := Ground.phase }, { on := 8, ground := Ground.phase }, { on := 9, ground := Ground.phase }, { on := 10, ground := Ground.phase }, { on := 11, ground := Ground.phase }, { on := 12, ground := Ground.phase }, { on := 13, ground := Ground.phase }, { on := 14, ground := Ground.phase }], guard := none }) (v := ?_) rfl (by kernel_rfl) (by kernel_rfl) (by kernel_rfl) (fun _ _ _ h => h) (Or.inl ⟨by rfl, ?_⟩) (by assumption) ?_
    rotate_left
    · intro v hSw
      try dsimp only at hSw
      go_simp
      with_reducible rfl
    try simp only [Act.put, List.setIfInBounds_toArray, List.set_cons_zero, List.set_cons_succ]
    refine wpAnyH_done (by kernel_rfl) ?_ _
    clear hadd1 hadd2 hadd3
    have HBL := Lib.hid (show x14 ++ List.replicate (497 - tx.length) 0 = bodyL q true tx by rw [← H14.out, ← H13.out, ← H12.out, ← HX1.out, ← HX2.out, ← HX3.out]; rfl)
    clear H12 H13 H14 HX1 HX2 HX3 B0 B1 B2 B3 K0 K1 K2
    go_wp2_with fail
    go_loopw [4] (fun s4 wr => ∃ j : Nat, j ≤ c ∧ s4 = .string ⟨(x14 ++ List.replicate j 0).toArray⟩ ∧ Kp (fun _ => False) w wr) (fun s4 _ => 508 - strLen s4)
    case atStart => exact ⟨0, Nat.zero_le _, by simp, K3.out⟩
    case round =>
      obtain ⟨j, hj, rfl, hk⟩ := hrel
      have KW := Lib.hid hk
      clear hk
      obtain ⟨y, hy⟩ : ∃ y, x14 ++ List.replicate j 0 = y := ⟨_, rfl⟩
      have hyl : y.length = 11 + tx.length + j := by rw [← hy, List.length_append, L14.out, List.length_replicate]
      by_cases hlt : j < c
      · have hd : decide ((y.length : Int) < 508) = true := by simp; omega
        obtain ⟨z, hz⟩ : ∃ z, y ++ [0] = z := ⟨_, rfl⟩
        have hadd := fun w => add_str (P := Tryd.prog) y [0] z w hz (by simp; omega)
        have hzl : z.length = y.length + 1 := by rw [← hz]; simp
        have hzz : z = x14 ++ List.replicate (j + 1) 0 := by rw [← hz, ← hy, List.replicate_succ', List.append_assoc]
        have HZ := Lib.hid hzz
        have HYL := Lib.hid hyl
        have HZL := Lib.hid hzl
        rw [hy]
        have hsz : (⟨y.toArray⟩ : ByteArray).size = y.length := by show y.toArray.size = _; simp
        clear hzz hyl hzl hy hz
        go_wp2_with fail
        go_roundw
        case rel => exact ⟨j + 1, by omega, by rw [HZ.out], KW.out⟩
        case measure =>
          simp only [strLen]
          show 508 - z.toArray.size < 508 - y.toArray.size
          have h1 := HZL.out
          have h2 := HYL.out
          simp
          omega
      · obtain rfl : j = c := by omega
        have hd : decide ((y.length : Int) < 508) = false := by simp; omega
        have hcc : j = 497 - tx.length := by omega
        have hyb : y = bodyL q true tx := by rw [← hy, ← HBL.out, hcc]
        have hyl8 : y.length = 508 := by omega
        have HYB := Lib.hid hyb
        have HYL := Lib.hid hyl8
        rw [hy]
        have hsz : (⟨y.toArray⟩ : ByteArray).size = y.length := by show y.toArray.size = _; simp
        clear hyl hy hyb hcc hyl8
        go_wp2_with fail
        refine (ref_any ⟨y.toArray⟩ wr (by rw [hsz, HYL.out]; decide)).mono ?_
        rintro e w5 ⟨rfl, rfl⟩
        have hcl := crcN_lt y
        rw [show (⟨y.toArray⟩ : ByteArray).data.toList = y from by simp]
        obtain ⟨m, hm⟩ : ∃ m, crcN y = m := ⟨_, rfl⟩
        rw [hm] at hcl ⊢
        have HM := Lib.hid hm
        clear hm
        have hrd : Rd (wr.alloc (.cells #[.int .u8 ((m : Int) % 256), .int .u8 ((m : Int) / 256 % 256), .int .u8 ((m : Int) / 65536 % 256), .int .u8 ((m : Int) / 16777216)] 5)) (some ⟨wr.heap.size, 0, none⟩) (le4 m) := by
          refine .inr ⟨_, 0, rfl, fun j u hu => ?_⟩
          rw [(Box.new wr _ _).cell]
          rcases j with _ | _ | _ | _ | j <;> simp [le4] at hu ⊢ <;> subst hu <;> simp
          omega
        have hcv := hrd.text (P := Tryd.prog) 26 9 5 4 Tryd.underlying26 Tryd.underlying5 Tryd.underlying9
        rw [show (le4 m).length = 4 from rfl] at hcv
        have hl4 : (le4 m).length = 4 := rfl
        have HL4 := Lib.hid hl4
        obtain ⟨l4, hl4e⟩ : ∃ l4, le4 m = l4 := ⟨_, rfl⟩
        rw [hl4e] at hcv HL4
        obtain ⟨z, hz⟩ : ∃ z, y ++ l4 = z := ⟨_, rfl⟩
        have hadd := fun w => add_str (P := Tryd.prog) y l4 z w hz (by rw [HYL.out, HL4.out]; decide)
        have hfin : z = secL q true tx := by rw [← hz, ← hl4e, ← HM.out, HYB.out]; rfl
        have HF := Lib.hid hfin
        clear hrd hfin hl4 hl4e hz
        go_wp2_with fail
        go_ret
        rw [← HF.out]
        exact ⟨rfl, KW.out.alloc _⟩
end Go.Proofs.YtdacjhgjaneeeaaDoor
