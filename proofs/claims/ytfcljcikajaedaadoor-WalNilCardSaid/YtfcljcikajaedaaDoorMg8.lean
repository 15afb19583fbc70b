/- What sheet.Put answers, as a row of its own. Conditions: the table of half bytes reads as the program's text lays it; a number of 64 bits. -/
import Derived.Test.YtfcljcikajaedaaDoorMg3
import Derived.Test.YtfcljcikajaedaaDoorMg7
namespace Go.Proofs.YtfcljcikajaedaaDoor
open Go.RowKit

set_option maxRecDepth 100000 in
set_option maxHeartbeats 4000000 in
theorem put_own (q : Nat) (b : Bool) (s : ByteArray) (w : World) (hq : q < 18446744073709551616) (hs : s.size ≤ 497) (ht : Tbl w) :
    Calls Tryd.prog 37 #[sv q b s] w fun e w' => ∃ g c, e = .returned (.tuple #[.slice (some ⟨g, 0, none⟩) 512 c, .int .i64 0]) ∧ 512 ≤ c ∧ c ≤ maxLen ∧ w'.ownsRow 0 5 1 (.slice (some ⟨g, 0, none⟩) 512 c) 512 (bcs (secL q b (tb s))) ∧ w.heap.size ≤ g ∧ Kp (fun _ => False) w w' := by
  have hd : decide ((497 : Int) < s.size) = false := by simp; omega
  have hw1 : IntKind.u64.wrap (s.size : Int) = s.size := IntWalk.u64_in _ (by omega)
  obtain ⟨c, hc⟩ : ∃ c : Nat, s.size + c = 497 := ⟨497 - s.size, by omega⟩
  have hsub := Lib.hid (show IntKind.i64.wrap ((497 : Int) - s.size) = (c : Int) by rw [IntWalk.i64_in _ (by omega)]; omega)
  have HT := Lib.hid ht
  clear ht
  cases b
  · have B0 := Lib.hid (Box.new w 70 #[.int .u64 q, .bool false, .string s])
    have K0 := Lib.hid ((Kp.refl (fun _ => False) w).alloc (.cells #[.int .u64 q, .bool false, .string s] 70))
    go_enter Tryd.func37, Tryd.ntmps37
    go_upto_region 6 with fail
    generalize w.alloc (.cells #[.int .u64 q, .bool false, .string s] 70) = w0 at *
    refine wp_region_held_drew (S := fun v => v.cell? ⟨w.heap.size, 0, none⟩ = some (.int .u64 q) ∧ v.cell? ⟨w.heap.size, 1, none⟩ = some (.bool false) ∧ v.cell? ⟨w.heap.size, 2, none⟩ = some (.string s)) (by kernel_rfl) (sh_cells B0.out) (fun hHeld => ?_)
    refine wpAnyH_take (i := 1) (oi := { dst := some 15, op := Op.fieldAddr 70 (Operand.tmp 1) 0, type := 0, pos := "sheet.go:41", after := #[], guard := none }) (v := ?_) rfl (by kernel_rfl) (by kernel_rfl) (by kernel_rfl) (fun _ _ _ h => h) (Or.inl ⟨by rfl, ?_⟩) (by assumption) ?_
    rotate_left
    · intro v hSw
      try dsimp only at hSw
      go_simp
      with_reducible rfl
    try simp only [Act.put, List.setIfInBounds_toArray, List.set_cons_zero, List.set_cons_succ]
    refine wpAnyH_take (i := 2) (oi := { dst := some 16, op := Op.load 37 (Operand.tmp 15), type := 37, pos := "sheet.go:41", after := #[{ on := 1, ground := Ground.data }], guard := none }) (v := ?_) rfl (by kernel_rfl) (by kernel_rfl) (by kernel_rfl) (fun _ _ _ h => h) (Or.inl ⟨by rfl, ?_⟩) (by assumption) ?_
    rotate_left
    · intro v hSw
      try dsimp only at hSw
      go_simp
      with_reducible rfl
    try simp only [Act.put, List.setIfInBounds_toArray, List.set_cons_zero, List.set_cons_succ]
    refine wpAnyH_take (i := 4) (oi := { dst := some 18, op := Op.move (Operand.tmp 4), type := 37, pos := "sheet.go:41", after := #[], guard := none }) (v := ?_) rfl (by kernel_rfl) (by kernel_rfl) (by kernel_rfl) (fun _ _ _ h => h) (Or.inl ⟨by rfl, ?_⟩) (by assumption) ?_
    rotate_left
    · intro v hSw
      try dsimp only at hSw
      go_simp
      with_reducible rfl
    try simp only [Act.put, List.setIfInBounds_toArray, List.set_cons_zero, List.set_cons_succ]
    refine wpAnyH_take (i := 6) (oi := { dst := some 20, op := Op.fieldAddr 70 (Operand.tmp 1) 2, type := 0, pos := "sheet.go:41", after := #[], guard := none }) (v := ?_) rfl (by kernel_rfl) (by kernel_rfl) (by kernel_rfl) (fun _ _ _ h => h) (Or.inl ⟨by rfl, ?_⟩) (by assumption) ?_
    rotate_left
    · intro v hSw
      try dsimp only at hSw
      go_simp
      with_reducible rfl
    try simp only [Act.put, List.setIfInBounds_toArray, List.set_cons_zero, List.set_cons_succ]
    refine wpAnyH_take (i := 7) (oi := { dst := some 21, op := Op.load 9 (Operand.tmp 20), type := 9, pos := "sheet.go:41", after := #[{ on := 6, ground := Ground.data }], guard := none }) (v := ?_) rfl (by kernel_rfl) (by kernel_rfl) (by kernel_rfl) (fun _ _ _ h => h) (Or.inl ⟨by rfl, ?_⟩) (by assumption) ?_
    rotate_left
    · intro v hSw
      try dsimp only at hSw
      go_simp
      with_reducible rfl
    try simp only [Act.put, List.setIfInBounds_toArray, List.set_cons_zero, List.set_cons_succ]
    refine wpAnyH_take (i := 8) (oi := { dst := some 22, op := Op.call { callee := Callee.builtin Builtin.len, args := #[Operand.tmp 21], argTypes := #[9] }, type := 3, pos := "sheet.go:41", after := #[{ on := 7, ground := Ground.data }], guard := none }) (v := ?_) rfl (by kernel_rfl) (by kernel_rfl) (by kernel_rfl) (fun _ _ _ h => h) (Or.inl ⟨by rfl, ?_⟩) (by assumption) ?_
    rotate_left
    · intro v hSw
      try dsimp only at hSw
      go_simp
      with_reducible rfl
    try simp only [Act.put, List.setIfInBounds_toArray, List.set_cons_zero, List.set_cons_succ]
    refine wpAnyH_take (i := 9) (oi := { dst := some 23, op := Op.convert 3 37 (Operand.tmp 22), type := 37, pos := "sheet.go:41", after := #[{ on := 8, ground := Ground.data }], guard := none }) (v := ?_) rfl (by kernel_rfl) (by kernel_rfl) (by kernel_rfl) (fun _ _ _ h => h) (Or.inl ⟨by rfl, ?_⟩) (by assumption) ?_
    rotate_left
    · intro v hSw
      try dsimp only at hSw
      go_simp
      with_reducible rfl
    try simp only [Act.put, List.setIfInBounds_toArray, List.set_cons_zero, List.set_cons_succ]
    refine wpAnyH_ready (rs := [0]) (by kernel_rfl) (by simp) ?_
    refine AllReadyH.cons (o := { dst := some 14, op := Op.call { callee := Callee.value (Operand.func 50), args := #[], argTypes := #[] }, type := 102, pos := "sheet.go:41", after := #[], guard := none }) rfl (fun K hK => ?_) AllReadyH.nil
    go_simp
    have hlt := B0.out.lt
    refine (new_any (fun k => w.heap.size + 1 ≤ k) w0.drew hlt).mono ?_
    rintro e w1 ⟨rfl, hp, hk⟩
    have P1 := Lib.hid (pk_of hp)
    have B1 := Lib.hid ((B0.out.drew).kp hk (fun e => e))
    have K1 := Lib.hid (K0.out.drew.trans hk)
    generalize Value.pointer (some ⟨w0.drew.heap.size, 0, none⟩) = p at *
    clear hp hk hlt
    go_wp2_with fail
    refine hK.out _ _ (sh_cells B1.out) (fun hHeld1 => ?_)
    clear hK K
    try simp only [Act.put, List.setIfInBounds_toArray, List.set_cons_zero, List.set_cons_succ]
    refine wpAnyH_ready (rs := [3]) (by kernel_rfl) (by simp) ?_
    refine AllReadyH.cons (o := { dst := some 17, op := Op.call { callee := Callee.value (Operand.func 51), args := #[Operand.tmp 14, Operand.const (Value.int IntKind.i64 8), Operand.tmp 16], argTypes := #[102, 3, 37] }, type := 102, pos := "sheet.go:41", after := #[{ on := 0, ground := Ground.data }, { on := 2, ground := Ground.data }, { on := 0, ground := Ground.chain }], guard := none }) rfl (fun K hK => ?_) AllReadyH.nil
    go_simp
    have hFN := fnew (w := w) (w' := w1) B1.out.lt
    have hcall := put_fine8 P1.out hFN q hq (by decide)
    try rw [show ((1 : Nat) : Int) = 1 from rfl] at hcall
    refine hcall.mono ?_
    clear hcall
    rintro e w2 ⟨rfl, hp, hk⟩
    have P2 := Lib.hid hp
    have B2 := Lib.hid (B1.out.kp hk (fun e => by omega))
    have K2 := Lib.hid (K1.out.trans_new hk (fun b e => .inl (by omega)))
    clear hp hk hFN
    go_wp2_with fail
    refine hK.out _ _ (sh_cells B2.out) (fun hHeld2 => ?_)
    clear hK K
    try simp only [Act.put, List.setIfInBounds_toArray, List.set_cons_zero, List.set_cons_succ]
    refine wpAnyH_ready (rs := [5]) (by kernel_rfl) (by simp) ?_
    refine AllReadyH.cons (o := { dst := some 19, op := Op.call { callee := Callee.value (Operand.func 51), args := #[Operand.tmp 17, Operand.const (Value.int IntKind.i64 1), Operand.tmp 18], argTypes := #[102, 3, 37] }, type := 102, pos := "sheet.go:41", after := #[{ on := 3, ground := Ground.data }, { on := 4, ground := Ground.data }, { on := 3, ground := Ground.chain }], guard := none }) rfl (fun K hK => ?_) AllReadyH.nil
    go_simp
    have hFN := fnew (w := w) (w' := w2) B2.out.lt
    have hcall := put_fine1 P2.out hFN 1 (by decide) (by simp [putS, beN_length])
    try rw [show ((1 : Nat) : Int) = 1 from rfl] at hcall
    refine hcall.mono ?_
    clear hcall
    rintro e w3 ⟨rfl, hp, hk⟩
    have P3 := Lib.hid hp
    have B3 := Lib.hid (B2.out.kp hk (fun e => by omega))
    have K3 := Lib.hid (K2.out.trans_new hk (fun b e => .inl (by omega)))
    clear hp hk hFN
    go_wp2_with fail
    refine hK.out _ _ (sh_cells B3.out) (fun hHeld3 => ?_)
    clear hK K
    try simp only [Act.put, List.setIfInBounds_toArray, List.set_cons_zero, List.set_cons_succ]
    refine wpAnyH_ready (rs := [10]) (by kernel_rfl) (by simp) ?_
    refine AllReadyH.cons (o := { dst := some 24, op := Op.call { callee := Callee.value (Operand.func 51), args := #[Operand.tmp 19, Operand.const (Value.int IntKind.i64 2), Operand.tmp 23], argTypes := #[102, 3, 37] }, type := 102, pos := "sheet.go:41", after := #[{ on := 5, ground := Ground.data }, { on := 9, ground := Ground.data }, { on := 5, ground := Ground.chain }], guard := none }) rfl (fun K hK => ?_) AllReadyH.nil
    go_simp
    have hFN := fnew (w := w) (w' := w3) B3.out.lt
    have hcall := put_fine2 P3.out hFN s.size (by omega) (by simp [putS, beN_length])
    try rw [show ((1 : Nat) : Int) = 1 from rfl] at hcall
    refine hcall.mono ?_
    clear hcall
    rintro e w4 ⟨rfl, hp, hk⟩
    have P4 := Lib.hid hp
    have B4 := Lib.hid (B3.out.kp hk (fun e => by omega))
    have K4 := Lib.hid (K3.out.trans_new hk (fun b e => .inl (by omega)))
    clear hp hk hFN
    go_wp2_with fail
    refine hK.out _ _ (sh_cells B4.out) (fun hHeld4 => ?_)
    clear hK K
    try simp only [Act.put, List.setIfInBounds_toArray, List.set_cons_zero, List.set_cons_succ]
    refine wpAnyH_take (i := 11) (oi := { dst := some 5, op := Op.assign (Operand.tmp 24), type := 102, pos := "sheet.go:41", after := #[{ on := 10, ground := Ground.data }, { on := 10, ground := Ground.chain }, { on := 0, ground := Ground.phase }, { on := 1, ground := Ground.phase }, { on := 2, ground := Ground.phase }, { on := 3, ground := Ground.phase }, { on := 4, ground := Ground.phase }, { on := 5, ground := Ground.phase }, { on := 6, ground := Ground.phase }, { on := 7, ground := Ground.phase }, { on := 8, ground := Ground.phase }, { on := 9, ground := Ground.phase }, { on := 10, ground := Ground.phase }], guard := none }) (v := ?_) rfl (by kernel_rfl) (by kernel_rfl) (by kernel_rfl) (fun _ _ _ h => h) (Or.inl ⟨by rfl, ?_⟩) (by assumption) ?_
    rotate_left
    · intro v hSw
      try dsimp only at hSw
      go_simp
      with_reducible rfl
    try simp only [Act.put, List.setIfInBounds_toArray, List.set_cons_zero, List.set_cons_succ]
    refine wpAnyH_done (by kernel_rfl) ?_ _
    go_upto_region 7 with fail
    refine wp_region_held_drew (S := fun v => v.cell? ⟨w.heap.size, 0, none⟩ = some (.int .u64 q) ∧ v.cell? ⟨w.heap.size, 1, none⟩ = some (.bool false) ∧ v.cell? ⟨w.heap.size, 2, none⟩ = some (.string s)) (by kernel_rfl) (sh_cells B4.out) (fun hHeld => ?_)
    refine wpAnyH_take (i := 0) (oi := { dst := some 25, op := Op.move (Operand.tmp 5), type := 102, pos := "sheet.go:42", after := #[], guard := none }) (v := ?_) rfl (by kernel_rfl) (by kernel_rfl) (by kernel_rfl) (fun _ _ _ h => h) (Or.inl ⟨by rfl, ?_⟩) (by assumption) ?_
    rotate_left
    · intro v hSw
      try dsimp only at hSw
      go_simp
      with_reducible rfl
    try simp only [Act.put, List.setIfInBounds_toArray, List.set_cons_zero, List.set_cons_succ]
    refine wpAnyH_take (i := 1) (oi := { dst := some 26, op := Op.fieldAddr 70 (Operand.tmp 1) 2, type := 0, pos := "sheet.go:42", after := #[], guard := none }) (v := ?_) rfl (by kernel_rfl) (by kernel_rfl) (by kernel_rfl) (fun _ _ _ h => h) (Or.inl ⟨by rfl, ?_⟩) (by assumption) ?_
    rotate_left
    · intro v hSw
      try dsimp only at hSw
      go_simp
      with_reducible rfl
    try simp only [Act.put, List.setIfInBounds_toArray, List.set_cons_zero, List.set_cons_succ]
    refine wpAnyH_take (i := 2) (oi := { dst := some 27, op := Op.load 9 (Operand.tmp 26), type := 9, pos := "sheet.go:42", after := #[{ on := 1, ground := Ground.data }], guard := none }) (v := ?_) rfl (by kernel_rfl) (by kernel_rfl) (by kernel_rfl) (fun _ _ _ h => h) (Or.inl ⟨by rfl, ?_⟩) (by assumption) ?_
    rotate_left
    · intro v hSw
      try dsimp only at hSw
      go_simp
      with_reducible rfl
    try simp only [Act.put, List.setIfInBounds_toArray, List.set_cons_zero, List.set_cons_succ]
    refine wpAnyH_take (i := 4) (oi := { dst := some 29, op := Op.fieldAddr 70 (Operand.tmp 1) 2, type := 0, pos := "sheet.go:42", after := #[], guard := none }) (v := ?_) rfl (by kernel_rfl) (by kernel_rfl) (by kernel_rfl) (fun _ _ _ h => h) (Or.inl ⟨by rfl, ?_⟩) (by assumption) ?_
    rotate_left
    · intro v hSw
      try dsimp only at hSw
      go_simp
      with_reducible rfl
    try simp only [Act.put, List.setIfInBounds_toArray, List.set_cons_zero, List.set_cons_succ]
    refine wpAnyH_take (i := 5) (oi := { dst := some 30, op := Op.load 9 (Operand.tmp 29), type := 9, pos := "sheet.go:42", after := #[{ on := 4, ground := Ground.data }], guard := none }) (v := ?_) rfl (by kernel_rfl) (by kernel_rfl) (by kernel_rfl) (fun _ _ _ h => h) (Or.inl ⟨by rfl, ?_⟩) (by assumption) ?_
    rotate_left
    · intro v hSw
      try dsimp only at hSw
      go_simp
      with_reducible rfl
    try simp only [Act.put, List.setIfInBounds_toArray, List.set_cons_zero, List.set_cons_succ]
    refine wpAnyH_take (i := 6) (oi := { dst := some 31, op := Op.call { callee := Callee.builtin Builtin.len, args := #[Operand.tmp 30], argTypes := #[9] }, type := 3, pos := "sheet.go:42", after := #[{ on := 5, ground := Ground.data }], guard := none }) (v := ?_) rfl (by kernel_rfl) (by kernel_rfl) (by kernel_rfl) (fun _ _ _ h => h) (Or.inl ⟨by rfl, ?_⟩) (by assumption) ?_
    rotate_left
    · intro v hSw
      try dsimp only at hSw
      go_simp
      with_reducible rfl
    try simp only [Act.put, List.setIfInBounds_toArray, List.set_cons_zero, List.set_cons_succ]
    refine wpAnyH_take (i := 7) (oi := { dst := some 32, op := Op.binOp BinOp.sub 3 (Operand.const (Value.int IntKind.i64 497)) (Operand.tmp 31) 3, type := 3, pos := "sheet.go:42", after := #[{ on := 6, ground := Ground.data }], guard := none }) (v := ?_) rfl (by kernel_rfl) (by kernel_rfl) (by kernel_rfl) (fun _ _ _ h => h) (Or.inl ⟨by rfl, ?_⟩) (by assumption) ?_
    rotate_left
    · intro v hSw
      try dsimp only at hSw
      go_simp
      with_reducible rfl
    try simp only [Act.put, List.setIfInBounds_toArray, List.set_cons_zero, List.set_cons_succ]
    refine wpAnyH_ready (rs := [3]) (by kernel_rfl) (by simp) ?_
    refine AllReadyH.cons (o := { dst := some 28, op := Op.call { callee := Callee.value (Operand.func 54), args := #[Operand.tmp 25, Operand.tmp 27], argTypes := #[102, 9] }, type := 102, pos := "sheet.go:42", after := #[{ on := 0, ground := Ground.data }, { on := 2, ground := Ground.data }], guard := none }) rfl (fun K hK => ?_) AllReadyH.nil
    have P5 := Lib.hid (P4.out.still (Kp.refl _ w4).drew)
    have B5 := Lib.hid (B4.out.drew)
    have K5 := Lib.hid (K4.out.drew)
    generalize w4.drew = w5 at *
    go_simp
    have hFN := fnew (w := w) (w' := w5) B5.out.lt
    refine (text_any P5.out hFN s (by rw [put_len11]; omega)).mono ?_
    rintro e w6 ⟨rfl, hp, hk⟩
    have P6 := Lib.hid hp
    have B6 := Lib.hid (B5.out.kp hk (fun e => by omega))
    have K6 := Lib.hid (K5.out.trans_new hk (fun b e => .inl (by omega)))
    clear hp hk hFN
    go_wp2_with fail
    refine hK.out _ _ (sh_cells B6.out) (fun hHeld5 => ?_)
    clear hK K
    try simp only [Act.put, List.setIfInBounds_toArray, List.set_cons_zero, List.set_cons_succ]
    refine wpAnyH_ready (rs := [8]) (by kernel_rfl) (by simp) ?_
    refine AllReadyH.cons (o := { dst := some 33, op := Op.call { callee := Callee.value (Operand.func 55), args := #[Operand.const (Value.string { data := #[0] }), Operand.tmp 32], argTypes := #[9, 3] }, type := 9, pos := "sheet.go:42", after := #[{ on := 7, ground := Ground.data }, { on := 3, ground := Ground.chain }], guard := none }) rfl (fun K hK => ?_) AllReadyH.nil
    go_simp
    rw [hsub.out]
    refine (Tryd.strings_Repeat ⟨#[0]⟩ c w6 (by omega) (by rw [show (⟨#[0]⟩ : ByteArray).size = 1 from rfl, Nat.one_mul]; omega)).mono ?_
    rintro e w7 ⟨rfl, hbl⟩
    have hk := (Kp.of_below hbl).fresh (fun _ => False)
    rw [show (⟨#[0]⟩ : ByteArray).data.toList = [0] from rfl, repeat_zero]
    have P7 := Lib.hid (P6.out.still hk)
    have B7 := Lib.hid (B6.out.kp hk (fun e => e))
    have K7 := Lib.hid (K6.out.trans hk)
    clear hk hbl
    go_wp2_with fail
    refine hK.out _ _ (sh_cells B7.out) (fun hHeld6 => ?_)
    clear hK K
    try simp only [Act.put, List.setIfInBounds_toArray, List.set_cons_zero, List.set_cons_succ]
    refine wpAnyH_ready (rs := [9]) (by kernel_rfl) (by simp) ?_
    refine AllReadyH.cons (o := { dst := some 34, op := Op.call { callee := Callee.value (Operand.func 54), args := #[Operand.tmp 28, Operand.tmp 33], argTypes := #[102, 9] }, type := 102, pos := "sheet.go:42", after := #[{ on := 3, ground := Ground.data }, { on := 8, ground := Ground.data }, { on := 8, ground := Ground.chain }], guard := none }) rfl (fun K hK => ?_) AllReadyH.nil
    go_simp
    have hFN := fnew (w := w) (w' := w7) B7.out.lt
    refine (text_any P7.out hFN ⟨(List.replicate c (0 : UInt8)).toArray⟩ (by rw [put_len, put_len11, zero_size]; omega)).mono ?_
    rintro e w8 ⟨rfl, hp, hk⟩
    have P8 := Lib.hid hp
    have B8 := Lib.hid (B7.out.kp hk (fun e => by omega))
    have K8 := Lib.hid (K7.out.trans_new hk (fun b e => .inl (by omega)))
    clear hp hk hFN
    go_wp2_with fail
    refine hK.out _ _ (sh_cells B8.out) (fun hHeld7 => ?_)
    clear hK K
    try simp only [Act.put, List.setIfInBounds_toArray, List.set_cons_zero, List.set_cons_succ]
    refine wpAnyH_done (by kernel_rfl) ?_ _
    all_goals
      go_wp2_with fail
      refine (bytes_any P8.out (by rw [put_len, put_len, put_len11, zero_size]; omega)).mono ?_
      rintro e w9 ⟨A, cc, rfl, h1, h2, hr, _, hk⟩
      have P9 := Lib.hid (P8.out.still hk)
      have K9 := Lib.hid (K8.out.trans hk)
      have B9 := Lib.hid (B8.out.kp hk (fun e => e))
      have hb := body_put q false s c hc
      rw [show kindN false = 1 from rfl] at hb
      have hlen : (bodyL q false (tb s)).length = 508 := bodyL_length q false _ (by show s.size ≤ 497; omega)
      rw [hb] at h1 hr P9
      rw [hb]
      clear hb
      have HR := Lib.hid hr
      obtain ⟨L, hL⟩ : ∃ L, bodyL q false (tb s) = L := ⟨_, rfl⟩
      have hsec : secL q false (tb s) = L ++ le4 (crcN L) := by rw [secL, hL]
      have HSEC := Lib.hid hsec
      clear hsec
      rw [hL] at HR hlen P9 ⊢
      have HLEN := Lib.hid hlen
      clear hr hL hk h1 hlen
      go_wp2_with fail
      refine (sum_any' A L cc w9 (by rw [HLEN.out]; decide) HR.out (HT.out.kp K9.out (fun e => e))).mono ?_
      rintro e w10 ⟨rfl, rfl⟩
      have hcl := crcN_lt L
      go_wp2_with fail
      refine (rev_any (crcN L) w9 hcl).mono ?_
      rintro e w10 ⟨rfl, rfl⟩
      have hrl := rev32_lt (crcN L)
      have hrv := beN_rev (crcN L)
      have hw2 : IntKind.u64.wrap ((rev32 (crcN L) : Nat) : Int) = ((rev32 (crcN L) : Nat) : Int) := IntWalk.u64_in _ (by omega)
      generalize rev32 (crcN L) = rv at *
      go_wp2_with fail
      have hFN := fnew (w := w) (w' := w9) B9.out.lt
      refine (put_fine4 P9.out hFN rv hrl (by rw [HLEN.out]; decide)).mono ?_
      rintro e w10 ⟨rfl, hp, hk⟩
      have P10 := Lib.hid hp
      have K10 := Lib.hid (K9.out.trans_new hk (fun b e => .inl (by omega)))
      clear hp hk hFN
      go_wp2_with fail
      rw [putS_ok, hrv] at P10
      have hl2 : (L ++ le4 (crcN L)).length = 512 := by rw [List.length_append, HLEN.out]; rfl
      obtain ⟨M, hM⟩ : ∃ M, L ++ le4 (crcN L) = M := ⟨_, rfl⟩
      rw [hM] at P10 hl2
      have HM := Lib.hid hM
      clear hM
      refine (bytes_any_own P10.out (by rw [hl2]; decide) (by rw [hl2]; decide)).mono ?_
      rintro e w11 ⟨g2, c2, rfl, h1, h2', ho, hg, hk⟩
      rw [hl2]
      rw [hl2] at h1 ho
      have HO2 := Lib.hid ho
      have HK2 := Lib.hid hk
      clear ho hk
      go_wp2_with fail
      go_ret2
      refine ⟨g2, c2, rfl, h1, h2', ?_, Nat.le_trans K10.out.size hg, K10.out.trans HK2.out⟩
      rw [HSEC.out, HM.out]
      exact HO2.out
  · have B0 := Lib.hid (Box.new w 70 #[.int .u64 q, .bool true, .string s])
    have K0 := Lib.hid ((Kp.refl (fun _ => False) w).alloc (.cells #[.int .u64 q, .bool true, .string s] 70))
    go_enter Tryd.func37, Tryd.ntmps37
    go_upto_region 6 with fail
    generalize w.alloc (.cells #[.int .u64 q, .bool true, .string s] 70) = w0 at *
    refine wp_region_held_drew (S := fun v => v.cell? ⟨w.heap.size, 0, none⟩ = some (.int .u64 q) ∧ v.cell? ⟨w.heap.size, 1, none⟩ = some (.bool true) ∧ v.cell? ⟨w.heap.size, 2, none⟩ = some (.string s)) (by kernel_rfl) (sh_cells B0.out) (fun hHeld => ?_)
    refine wpAnyH_take (i := 1) (oi := { dst := some 15, op := Op.fieldAddr 70 (Operand.tmp 1) 0, type := 0, pos := "sheet.go:41", after := #[], guard := none }) (v := ?_) rfl (by kernel_rfl) (by kernel_rfl) (by kernel_rfl) (fun _ _ _ h => h) (Or.inl ⟨by rfl, ?_⟩) (by assumption) ?_
    rotate_left
    · intro v hSw
      try dsimp only at hSw
      go_simp
      with_reducible rfl
    try simp only [Act.put, List.setIfInBounds_toArray, List.set_cons_zero, List.set_cons_succ]
    refine wpAnyH_take (i := 2) (oi := { dst := some 16, op := Op.load 37 (Operand.tmp 15), type := 37, pos := "sheet.go:41", after := #[{ on := 1, ground := Ground.data }], guard := none }) (v := ?_) rfl (by kernel_rfl) (by kernel_rfl) (by kernel_rfl) (fun _ _ _ h => h) (Or.inl ⟨by rfl, ?_⟩) (by assumption) ?_
    rotate_left
    · intro v hSw
      try dsimp only at hSw
      go_simp
      with_reducible rfl
    try simp only [Act.put, List.setIfInBounds_toArray, List.set_cons_zero, List.set_cons_succ]
    refine wpAnyH_take (i := 4) (oi := { dst := some 18, op := Op.move (Operand.tmp 4), type := 37, pos := "sheet.go:41", after := #[], guard := none }) (v := ?_) rfl (by kernel_rfl) (by kernel_rfl) (by kernel_rfl) (fun _ _ _ h => h) (Or.inl ⟨by rfl, ?_⟩) (by assumption) ?_
    rotate_left
    · intro v hSw
      try dsimp only at hSw
      go_simp
      with_reducible rfl
    try simp only [Act.put, List.setIfInBounds_toArray, List.set_cons_zero, List.set_cons_succ]
    refine wpAnyH_take (i := 6) (oi := { dst := some 20, op := Op.fieldAddr 70 (Operand.tmp 1) 2, type := 0, pos := "sheet.go:41", after := #[], guard := none }) (v := ?_) rfl (by kernel_rfl) (by kernel_rfl) (by kernel_rfl) (fun _ _ _ h => h) (Or.inl ⟨by rfl, ?_⟩) (by assumption) ?_
    rotate_left
    · intro v hSw
      try dsimp only at hSw
      go_simp
      with_reducible rfl
    try simp only [Act.put, List.setIfInBounds_toArray, List.set_cons_zero, List.set_cons_succ]
    refine wpAnyH_take (i := 7) (oi := { dst := some 21, op := Op.load 9 (Operand.tmp 20), type := 9, pos := "sheet.go:41", after := #[{ on := 6, ground := Ground.data }], guard := none }) (v := ?_) rfl (by kernel_rfl) (by kernel_rfl) (by kernel_rfl) (fun _ _ _ h => h) (Or.inl ⟨by rfl, ?_⟩) (by assumption) ?_
    rotate_left
    · intro v hSw
      try dsimp only at hSw
      go_simp
      with_reducible rfl
    try simp only [Act.put, List.setIfInBounds_toArray, List.set_cons_zero, List.set_cons_succ]
    refine wpAnyH_take (i := 8) (oi := { dst := some 22, op := Op.call { callee := Callee.builtin Builtin.len, args := #[Operand.tmp 21], argTypes := #[9] }, type := 3, pos := "sheet.go:41", after := #[{ on := 7, ground := Ground.data }], guard := none }) (v := ?_) rfl (by kernel_rfl) (by kernel_rfl) (by kernel_rfl) (fun _ _ _ h => h) (Or.inl ⟨by rfl, ?_⟩) (by assumption) ?_
    rotate_left
    · intro v hSw
      try dsimp only at hSw
      go_simp
      with_reducible rfl
    try simp only [Act.put, List.setIfInBounds_toArray, List.set_cons_zero, List.set_cons_succ]
    refine wpAnyH_take (i := 9) (oi := { dst := some 23, op := Op.convert 3 37 (Operand.tmp 22), type := 37, pos := "sheet.go:41", after := #[{ on := 8, ground := Ground.data }], guard := none }) (v := ?_) rfl (by kernel_rfl) (by kernel_rfl) (by kernel_rfl) (fun _ _ _ h => h) (Or.inl ⟨by rfl, ?_⟩) (by assumption) ?_
    rotate_left
    · intro v hSw
      try dsimp only at hSw
      go_simp
      with_reducible rfl
    try simp only [Act.put, List.setIfInBounds_toArray, List.set_cons_zero, List.set_cons_succ]
    refine wpAnyH_ready (rs := [0]) (by kernel_rfl) (by simp) ?_
    refine AllReadyH.cons (o := { dst := some 14, op := Op.call { callee := Callee.value (Operand.func 50), args := #[], argTypes := #[] }, type := 102, pos := "sheet.go:41", after := #[], guard := none }) rfl (fun K hK => ?_) AllReadyH.nil
    go_simp
    have hlt := B0.out.lt
    refine (new_any (fun k => w.heap.size + 1 ≤ k) w0.drew hlt).mono ?_
    rintro e w1 ⟨rfl, hp, hk⟩
    have P1 := Lib.hid (pk_of hp)
    have B1 := Lib.hid ((B0.out.drew).kp hk (fun e => e))
    have K1 := Lib.hid (K0.out.drew.trans hk)
    generalize Value.pointer (some ⟨w0.drew.heap.size, 0, none⟩) = p at *
    clear hp hk hlt
    go_wp2_with fail
    refine hK.out _ _ (sh_cells B1.out) (fun hHeld11 => ?_)
    clear hK K
    try simp only [Act.put, List.setIfInBounds_toArray, List.set_cons_zero, List.set_cons_succ]
    refine wpAnyH_ready (rs := [3]) (by kernel_rfl) (by simp) ?_
    refine AllReadyH.cons (o := { dst := some 17, op := Op.call { callee := Callee.value (Operand.func 51), args := #[Operand.tmp 14, Operand.const (Value.int IntKind.i64 8), Operand.tmp 16], argTypes := #[102, 3, 37] }, type := 102, pos := "sheet.go:41", after := #[{ on := 0, ground := Ground.data }, { on := 2, ground := Ground.data }, { on := 0, ground := Ground.chain }], guard := none }) rfl (fun K hK => ?_) AllReadyH.nil
    go_simp
    have hFN := fnew (w := w) (w' := w1) B1.out.lt
    have hcall := put_fine8 P1.out hFN q hq (by decide)
    try rw [show ((2 : Nat) : Int) = 2 from rfl] at hcall
    refine hcall.mono ?_
    clear hcall
    rintro e w2 ⟨rfl, hp, hk⟩
    have P2 := Lib.hid hp
    have B2 := Lib.hid (B1.out.kp hk (fun e => by omega))
    have K2 := Lib.hid (K1.out.trans_new hk (fun b e => .inl (by omega)))
    clear hp hk hFN
    go_wp2_with fail
    refine hK.out _ _ (sh_cells B2.out) (fun hHeld12 => ?_)
    clear hK K
    try simp only [Act.put, List.setIfInBounds_toArray, List.set_cons_zero, List.set_cons_succ]
    refine wpAnyH_ready (rs := [5]) (by kernel_rfl) (by simp) ?_
    refine AllReadyH.cons (o := { dst := some 19, op := Op.call { callee := Callee.value (Operand.func 51), args := #[Operand.tmp 17, Operand.const (Value.int IntKind.i64 1), Operand.tmp 18], argTypes := #[102, 3, 37] }, type := 102, pos := "sheet.go:41", after := #[{ on := 3, ground := Ground.data }, { on := 4, ground := Ground.data }, { on := 3, ground := Ground.chain }], guard := none }) rfl (fun K hK => ?_) AllReadyH.nil
    go_simp
    have hFN := fnew (w := w) (w' := w2) B2.out.lt
    have hcall := put_fine1 P2.out hFN 2 (by decide) (by simp [putS, beN_length])
    try rw [show ((2 : Nat) : Int) = 2 from rfl] at hcall
    refine hcall.mono ?_
    clear hcall
    rintro e w3 ⟨rfl, hp, hk⟩
    have P3 := Lib.hid hp
    have B3 := Lib.hid (B2.out.kp hk (fun e => by omega))
    have K3 := Lib.hid (K2.out.trans_new hk (fun b e => .inl (by omega)))
    clear hp hk hFN
    go_wp2_with fail
    refine hK.out _ _ (sh_cells B3.out) (fun hHeld13 => ?_)
    clear hK K
    try simp only [Act.put, List.setIfInBounds_toArray, List.set_cons_zero, List.set_cons_succ]
    refine wpAnyH_ready (rs := [10]) (by kernel_rfl) (by simp) ?_
    refine AllReadyH.cons (o := { dst := some 24, op := Op.call { callee := Callee.value (Operand.func 51), args := #[Operand.tmp 19, Operand.const (Value.int IntKind.i64 2), Operand.tmp 23], argTypes := #[102, 3, 37] }, type := 102, pos := "sheet.go:41", after := #[{ on := 5, ground := Ground.data }, { on := 9, ground := Ground.data }, { on := 5, ground := Ground.chain }], guard := none }) rfl (fun K hK => ?_) AllReadyH.nil
    go_simp
    have hFN := fnew (w := w) (w' := w3) B3.out.lt
    have hcall := put_fine2 P3.out hFN s.size (by omega) (by simp [putS, beN_length])
    try rw [show ((2 : Nat) : Int) = 2 from rfl] at hcall
    refine hcall.mono ?_
    clear hcall
    rintro e w4 ⟨rfl, hp, hk⟩
    have P4 := Lib.hid hp
    have B4 := Lib.hid (B3.out.kp hk (fun e => by omega))
    have K4 := Lib.hid (K3.out.trans_new hk (fun b e => .inl (by omega)))
    clear hp hk hFN
    go_wp2_with fail
    refine hK.out _ _ (sh_cells B4.out) (fun hHeld14 => ?_)
    clear hK K
    try simp only [Act.put, List.setIfInBounds_toArray, List.set_cons_zero, List.set_cons_succ]
    refine wpAnyH_take (i := 11) (oi := { dst := some 5, op := Op.assign (Operand.tmp 24), type := 102, pos := "sheet.go:41", after := #[{ on := 10, ground := Ground.data }, { on := 10, ground := Ground.chain }, { on := 0, ground := Ground.phase }, { on := 1, ground := Ground.phase }, { on := 2, ground := Ground.phase }, { on := 3, ground := Ground.phase }, { on := 4, ground := Ground.phase }, { on := 5, ground := Ground.phase }, { on := 6, ground := Ground.phase }, { on := 7, ground := Ground.phase }, { on := 8, ground := Ground.phase }, { on := 9, ground := Ground.phase }, { on := 10, ground := Ground.phase }], guard := none }) (v := ?_) rfl (by kernel_rfl) (by kernel_rfl) (by kernel_rfl) (fun _ _ _ h => h) (Or.inl ⟨by rfl, ?_⟩) (by assumption) ?_
    rotate_left
    · intro v hSw
      try dsimp only at hSw
      go_simp
      with_reducible rfl
    try simp only [Act.put, List.setIfInBounds_toArray, List.set_cons_zero, List.set_cons_succ]
    refine wpAnyH_done (by kernel_rfl) ?_ _
    go_upto_region 7 with fail
    refine wp_region_held_drew (S := fun v => v.cell? ⟨w.heap.size, 0, none⟩ = some (.int .u64 q) ∧ v.cell? ⟨w.heap.size, 1, none⟩ = some (.bool true) ∧ v.cell? ⟨w.heap.size, 2, none⟩ = some (.string s)) (by kernel_rfl) (sh_cells B4.out) (fun hHeld => ?_)
    refine wpAnyH_take (i := 0) (oi := { dst := some 25, op := Op.move (Operand.tmp 5), type := 102, pos := "sheet.go:42", after := #[], guard := none }) (v := ?_) rfl (by kernel_rfl) (by kernel_rfl) (by kernel_rfl) (fun _ _ _ h => h) (Or.inl ⟨by rfl, ?_⟩) (by assumption) ?_
    rotate_left
    · intro v hSw
      try dsimp only at hSw
      go_simp
      with_reducible rfl
    try simp only [Act.put, List.setIfInBounds_toArray, List.set_cons_zero, List.set_cons_succ]
    refine wpAnyH_take (i := 1) (oi := { dst := some 26, op := Op.fieldAddr 70 (Operand.tmp 1) 2, type := 0, pos := "sheet.go:42", after := #[], guard := none }) (v := ?_) rfl (by kernel_rfl) (by kernel_rfl) (by kernel_rfl) (fun _ _ _ h => h) (Or.inl ⟨by rfl, ?_⟩) (by assumption) ?_
    rotate_left
    · intro v hSw
      try dsimp only at hSw
      go_simp
      with_reducible rfl
    try simp only [Act.put, List.setIfInBounds_toArray, List.set_cons_zero, List.set_cons_succ]
    refine wpAnyH_take (i := 2) (oi := { dst := some 27, op := Op.load 9 (Operand.tmp 26), type := 9, pos := "sheet.go:42", after := #[{ on := 1, ground := Ground.data }], guard := none }) (v := ?_) rfl (by kernel_rfl) (by kernel_rfl) (by kernel_rfl) (fun _ _ _ h => h) (Or.inl ⟨by rfl, ?_⟩) (by assumption) ?_
    rotate_left
    · intro v hSw
      try dsimp only at hSw
      go_simp
      with_reducible rfl
    try simp only [Act.put, List.setIfInBounds_toArray, List.set_cons_zero, List.set_cons_succ]
    refine wpAnyH_take (i := 4) (oi := { dst := some 29, op := Op.fieldAddr 70 (Operand.tmp 1) 2, type := 0, pos := "sheet.go:42", after := #[], guard := none }) (v := ?_) rfl (by kernel_rfl) (by kernel_rfl) (by kernel_rfl) (fun _ _ _ h => h) (Or.inl ⟨by rfl, ?_⟩) (by assumption) ?_
    rotate_left
    · intro v hSw
      try dsimp only at hSw
      go_simp
      with_reducible rfl
    try simp only [Act.put, List.setIfInBounds_toArray, List.set_cons_zero, List.set_cons_succ]
    refine wpAnyH_take (i := 5) (oi := { dst := some 30, op := Op.load 9 (Operand.tmp 29), type := 9, pos := "sheet.go:42", after := #[{ on := 4, ground := Ground.data }], guard := none }) (v := ?_) rfl (by kernel_rfl) (by kernel_rfl) (by kernel_rfl) (fun _ _ _ h => h) (Or.inl ⟨by rfl, ?_⟩) (by assumption) ?_
    rotate_left
    · intro v hSw
      try dsimp only at hSw
      go_simp
      with_reducible rfl
    try simp only [Act.put, List.setIfInBounds_toArray, List.set_cons_zero, List.set_cons_succ]
    refine wpAnyH_take (i := 6) (oi := { dst := some 31, op := Op.call { callee := Callee.builtin Builtin.len, args := #[Operand.tmp 30], argTypes := #[9] }, type := 3, pos := "sheet.go:42", after := #[{ on := 5, ground := Ground.data }], guard := none }) (v := ?_) rfl (by kernel_rfl) (by kernel_rfl) (by kernel_rfl) (fun _ _ _ h => h) (Or.inl ⟨by rfl, ?_⟩) (by assumption) ?_
    rotate_left
    · intro v hSw
      try dsimp only at hSw
      go_simp
      with_reducible rfl
    try simp only [Act.put, List.setIfInBounds_toArray, List.set_cons_zero, List.set_cons_succ]
    refine wpAnyH_take (i := 7) (oi := { dst := some 32, op := Op.binOp BinOp.sub 3 (Operand.const (Value.int IntKind.i64 497)) (Operand.tmp 31) 3, type := 3, pos := "sheet.go:42", after := #[{ on := 6, ground := Ground.data }], guard := none }) (v := ?_) rfl (by kernel_rfl) (by kernel_rfl) (by kernel_rfl) (fun _ _ _ h => h) (Or.inl ⟨by rfl, ?_⟩) (by assumption) ?_
    rotate_left
    · intro v hSw
      try dsimp only at hSw
      go_simp
      with_reducible rfl
    try simp only [Act.put, List.setIfInBounds_toArray, List.set_cons_zero, List.set_cons_succ]
    refine wpAnyH_ready (rs := [3]) (by kernel_rfl) (by simp) ?_
    refine AllReadyH.cons (o := { dst := some 28, op := Op.call { callee := Callee.value (Operand.func 54), args := #[Operand.tmp 25, Operand.tmp 27], argTypes := #[102, 9] }, type := 102, pos := "sheet.go:42", after := #[{ on := 0, ground := Ground.data }, { on := 2, ground := Ground.data }], guard := none }) rfl (fun K hK => ?_) AllReadyH.nil
    have P5 := Lib.hid (P4.out.still (Kp.refl _ w4).drew)
    have B5 := Lib.hid (B4.out.drew)
    have K5 := Lib.hid (K4.out.drew)
    generalize w4.drew = w5 at *
    go_simp
    have hFN := fnew (w := w) (w' := w5) B5.out.lt
    refine (text_any P5.out hFN s (by rw [put_len11]; omega)).mono ?_
    rintro e w6 ⟨rfl, hp, hk⟩
    have P6 := Lib.hid hp
    have B6 := Lib.hid (B5.out.kp hk (fun e => by omega))
    have K6 := Lib.hid (K5.out.trans_new hk (fun b e => .inl (by omega)))
    clear hp hk hFN
    go_wp2_with fail
    refine hK.out _ _ (sh_cells B6.out) (fun hHeld15 => ?_)
    clear hK K
    try simp only [Act.put, List.setIfInBounds_toArray, List.set_cons_zero, List.set_cons_succ]
    refine wpAnyH_ready (rs := [8]) (by kernel_rfl) (by simp) ?_
    refine AllReadyH.cons (o := { dst := some 33, op := Op.call { callee := Callee.value (Operand.func 55), args := #[Operand.const (Value.string { data := #[0] }), Operand.tmp 32], argTypes := #[9, 3] }, type := 9, pos := "sheet.go:42", after := #[{ on := 7, ground := Ground.data }, { on := 3, ground := Ground.chain }], guard := none }) rfl (fun K hK => ?_) AllReadyH.nil
    go_simp
    rw [hsub.out]
    refine (Tryd.strings_Repeat ⟨#[0]⟩ c w6 (by omega) (by rw [show (⟨#[0]⟩ : ByteArray).size = 1 from rfl, Nat.one_mul]; omega)).mono ?_
    rintro e w7 ⟨rfl, hbl⟩
    have hk := (Kp.of_below hbl).fresh (fun _ => False)
    rw [show (⟨#[0]⟩ : ByteArray).data.toList = [0] from rfl, repeat_zero]
    have P7 := Lib.hid (P6.out.still hk)
    have B7 := Lib.hid (B6.out.kp hk (fun e => e))
    have K7 := Lib.hid (K6.out.trans hk)
    clear hk hbl
    go_wp2_with fail
    refine hK.out _ _ (sh_cells B7.out) (fun hHeld16 => ?_)
    clear hK K
    try simp only [Act.put, List.setIfInBounds_toArray, List.set_cons_zero, List.set_cons_succ]
    refine wpAnyH_ready (rs := [9]) (by kernel_rfl) (by simp) ?_
    refine AllReadyH.cons (o := { dst := some 34, op := Op.call { callee := Callee.value (Operand.func 54), args := #[Operand.tmp 28, Operand.tmp 33], argTypes := #[102, 9] }, type := 102, pos := "sheet.go:42", after := #[{ on := 3, ground := Ground.data }, { on := 8, ground := Ground.data }, { on := 8, ground := Ground.chain }], guard := none }) rfl (fun K hK => ?_) AllReadyH.nil
    go_simp
    have hFN := fnew (w := w) (w' := w7) B7.out.lt
    refine (text_any P7.out hFN ⟨(List.replicate c (0 : UInt8)).toArray⟩ (by rw [put_len, put_len11, zero_size]; omega)).mono ?_
    rintro e w8 ⟨rfl, hp, hk⟩
    have P8 := Lib.hid hp
    have B8 := Lib.hid (B7.out.kp hk (fun e => by omega))
    have K8 := Lib.hid (K7.out.trans_new hk (fun b e => .inl (by omega)))
    clear hp hk hFN
    go_wp2_with fail
    refine hK.out _ _ (sh_cells B8.out) (fun hHeld17 => ?_)
    clear hK K
    try simp only [Act.put, List.setIfInBounds_toArray, List.set_cons_zero, List.set_cons_succ]
    refine wpAnyH_done (by kernel_rfl) ?_ _
    all_goals
      go_wp2_with fail
      refine (bytes_any P8.out (by rw [put_len, put_len, put_len11, zero_size]; omega)).mono ?_
      rintro e w9 ⟨A, cc, rfl, h1, h2, hr, _, hk⟩
      have P9 := Lib.hid (P8.out.still hk)
      have K9 := Lib.hid (K8.out.trans hk)
      have B9 := Lib.hid (B8.out.kp hk (fun e => e))
      have hb := body_put q true s c hc
      rw [show kindN true = 2 from rfl] at hb
      have hlen : (bodyL q true (tb s)).length = 508 := bodyL_length q true _ (by show s.size ≤ 497; omega)
      rw [hb] at h1 hr P9
      rw [hb]
      clear hb
      have HR := Lib.hid hr
      obtain ⟨L, hL⟩ : ∃ L, bodyL q true (tb s) = L := ⟨_, rfl⟩
      have hsec : secL q true (tb s) = L ++ le4 (crcN L) := by rw [secL, hL]
      have HSEC := Lib.hid hsec
      clear hsec
      rw [hL] at HR hlen P9 ⊢
      have HLEN := Lib.hid hlen
      clear hr hL hk h1 hlen
      go_wp2_with fail
      refine (sum_any' A L cc w9 (by rw [HLEN.out]; decide) HR.out (HT.out.kp K9.out (fun e => e))).mono ?_
      rintro e w10 ⟨rfl, rfl⟩
      have hcl := crcN_lt L
      go_wp2_with fail
      refine (rev_any (crcN L) w9 hcl).mono ?_
      rintro e w10 ⟨rfl, rfl⟩
      have hrl := rev32_lt (crcN L)
      have hrv := beN_rev (crcN L)
      have hw2 : IntKind.u64.wrap ((rev32 (crcN L) : Nat) : Int) = ((rev32 (crcN L) : Nat) : Int) := IntWalk.u64_in _ (by omega)
      generalize rev32 (crcN L) = rv at *
      go_wp2_with fail
      have hFN := fnew (w := w) (w' := w9) B9.out.lt
      refine (put_fine4 P9.out hFN rv hrl (by rw [HLEN.out]; decide)).mono ?_
      rintro e w10 ⟨rfl, hp, hk⟩
      have P10 := Lib.hid hp
      have K10 := Lib.hid (K9.out.trans_new hk (fun b e => .inl (by omega)))
      clear hp hk hFN
      go_wp2_with fail
      rw [putS_ok, hrv] at P10
      have hl2 : (L ++ le4 (crcN L)).length = 512 := by rw [List.length_append, HLEN.out]; rfl
      obtain ⟨M, hM⟩ : ∃ M, L ++ le4 (crcN L) = M := ⟨_, rfl⟩
      rw [hM] at P10 hl2
      have HM := Lib.hid hM
      clear hM
      refine (bytes_any_own P10.out (by rw [hl2]; decide) (by rw [hl2]; decide)).mono ?_
      rintro e w11 ⟨g2, c2, rfl, h1, h2', ho, hg, hk⟩
      rw [hl2]
      rw [hl2] at h1 ho
      have HO2 := Lib.hid ho
      have HK2 := Lib.hid hk
      clear ho hk
      go_wp2_with fail
      go_ret2
      refine ⟨g2, c2, rfl, h1, h2', ?_, Nat.le_trans K10.out.size hg, K10.out.trans HK2.out⟩
      rw [HSEC.out, HM.out]
      exact HO2.out
end Go.Proofs.YtfcljcikajaedaaDoor
