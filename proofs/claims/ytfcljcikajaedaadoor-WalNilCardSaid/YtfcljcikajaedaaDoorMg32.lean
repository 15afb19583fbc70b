/- What a head's sector is made of: its bytes, as a row of its own. Conditions: the table of half bytes reads as the program's text lays it; a head that may be. -/
import Derived.Test.YtfcljcikajaedaaDoorMg31
import Derived.Test.YtfcljcikajaedaaDoorMg8
namespace Go.Proofs.YtfcljcikajaedaaDoor
open Go.RowKit

theorem hd_cells {w : World} {g : Nat} {t : TypeId} {h : Hd} {a : Nat} (hb : Box w g t (hcs h a).toArray) : w.cell? ⟨g, 0, none⟩ = some (.int .u64 h.g) ∧ w.cell? ⟨g, 1, none⟩ = some (.int .u64 h.f) ∧ w.cell? ⟨g, 2, none⟩ = some (.int .i64 h.n) ∧ w.cell? ⟨g, 3, none⟩ = some (.string ⟨h.note.toArray⟩) := ⟨hb.cell 0, hb.cell 1, hb.cell 2, hb.cell 3⟩
theorem note_tb (l : List UInt8) : tb ⟨l.toArray⟩ = l := by show l.toArray.toList = l; simp
theorem hput_len (h : Hd) : (putS (putS (putS (putS [] 0 (beN 8 h.g)) 0 (beN 8 h.f)) 0 (beN 2 h.n)) 0 (UInt8.ofNat (⟨h.note.toArray⟩ : ByteArray).size :: tb ⟨h.note.toArray⟩)).length = 19 + h.note.length := by
  rw [note_tb]; simp [putS, beN_length]; omega
theorem hbody_put (h : Hd) (c : Nat) (hc : h.note.length + c = 489) : putS (putS (putS (putS (putS [] 0 (beN 8 h.g)) 0 (beN 8 h.f)) 0 (beN 2 h.n)) 0 (UInt8.ofNat (⟨h.note.toArray⟩ : ByteArray).size :: tb ⟨h.note.toArray⟩)) 0 (tb ⟨(List.replicate c (0 : UInt8)).toArray⟩) = hbody h := by
  have e2 : c = 489 - h.note.length := by omega
  rw [note_tb, note_tb, note_size]
  simp only [putS_ok, List.nil_append, hbody, e2]

set_option maxRecDepth 100000 in
set_option maxHeartbeats 4000000 in
theorem hbytes_any (h : Hd) (a : Nat) (w : World) (ok : h.ok) (ht : Tbl w) :
    Calls Tryd.prog 34 #[.agg (hcs h a).toArray] w fun e w' => ∃ g c, e = .returned (.slice (some ⟨g, 0, none⟩) 512 c) ∧ 512 ≤ c ∧ c ≤ maxLen ∧ w'.ownsRow 0 5 1 (.slice (some ⟨g, 0, none⟩) 512 c) 512 (bcs (hsec h)) ∧ w.heap.size ≤ g ∧ Kp (fun _ => False) w w' := by
  obtain ⟨hg, hf, hlo, hhi, hnote⟩ := ok
  obtain ⟨c, hc⟩ : ∃ c : Nat, h.note.length + c = 489 := ⟨489 - h.note.length, by omega⟩
  have HT := Lib.hid ht
  have HNS := Lib.hid (note_size h.note)
  have hwn : IntKind.u64.wrap (h.n : Int) = h.n := IntWalk.u64_in _ (by omega)
  have hsub := Lib.hid (show IntKind.i64.wrap ((508 : Int) - ((19 + h.note.length : Nat) : Int)) = (c : Int) by rw [IntWalk.i64_in _ (by omega)]; omega)
  clear ht
  have B0 := Lib.hid (Box.new w 39 (hcs h a).toArray)
  have K0 := Lib.hid ((Kp.refl (fun _ => False) w).alloc (.cells (hcs h a).toArray 39))
  go_enter Tryd.func34, Tryd.ntmps34
  go_upto_region 1 with fail
  generalize w.alloc (.cells (hcs h a).toArray 39) = w0 at *
  refine wp_region_held_drew (S := fun v => v.cell? ⟨w.heap.size, 0, none⟩ = some (.int .u64 h.g) ∧ v.cell? ⟨w.heap.size, 1, none⟩ = some (.int .u64 h.f) ∧ v.cell? ⟨w.heap.size, 2, none⟩ = some (.int .i64 h.n) ∧ v.cell? ⟨w.heap.size, 3, none⟩ = some (.string ⟨h.note.toArray⟩)) (by kernel_rfl) (hd_cells B0.out) (fun hHeld => ?_)
  refine wpAnyH_take (i := 1) (oi := { dst := some 7, op := Op.fieldAddr 39 (Operand.tmp 1) 0, type := 0, pos := "head.go:34", after := #[], guard := none }) (v := ?_) rfl (by kernel_rfl) (by kernel_rfl) (by kernel_rfl) (fun _ _ _ h => h) (Or.inl ⟨by rfl, ?_⟩) (by assumption) ?_
  rotate_left
  · intro v hSw
    try dsimp only at hSw
    go_simp
    with_reducible rfl
  try simp only [Act.put, List.setIfInBounds_toArray, List.set_cons_zero, List.set_cons_succ]
  refine wpAnyH_take (i := 2) (oi := { dst := some 8, op := Op.load 37 (Operand.tmp 7), type := 37, pos := "head.go:34", after := #[{ on := 1, ground := Ground.data }], guard := none }) (v := ?_) rfl (by kernel_rfl) (by kernel_rfl) (by kernel_rfl) (fun _ _ _ h => h) (Or.inl ⟨by rfl, ?_⟩) (by assumption) ?_
  rotate_left
  · intro v hSw
    try dsimp only at hSw
    go_simp
    with_reducible rfl
  try simp only [Act.put, List.setIfInBounds_toArray, List.set_cons_zero, List.set_cons_succ]
  refine wpAnyH_take (i := 4) (oi := { dst := some 10, op := Op.fieldAddr 39 (Operand.tmp 1) 1, type := 0, pos := "head.go:34", after := #[], guard := none }) (v := ?_) rfl (by kernel_rfl) (by kernel_rfl) (by kernel_rfl) (fun _ _ _ h => h) (Or.inl ⟨by rfl, ?_⟩) (by assumption) ?_
  rotate_left
  · intro v hSw
    try dsimp only at hSw
    go_simp
    with_reducible rfl
  try simp only [Act.put, List.setIfInBounds_toArray, List.set_cons_zero, List.set_cons_succ]
  refine wpAnyH_take (i := 5) (oi := { dst := some 11, op := Op.load 37 (Operand.tmp 10), type := 37, pos := "head.go:34", after := #[{ on := 4, ground := Ground.data }], guard := none }) (v := ?_) rfl (by kernel_rfl) (by kernel_rfl) (by kernel_rfl) (fun _ _ _ h => h) (Or.inl ⟨by rfl, ?_⟩) (by assumption) ?_
  rotate_left
  · intro v hSw
    try dsimp only at hSw
    go_simp
    with_reducible rfl
  try simp only [Act.put, List.setIfInBounds_toArray, List.set_cons_zero, List.set_cons_succ]
  refine wpAnyH_take (i := 7) (oi := { dst := some 13, op := Op.fieldAddr 39 (Operand.tmp 1) 2, type := 0, pos := "head.go:34", after := #[], guard := none }) (v := ?_) rfl (by kernel_rfl) (by kernel_rfl) (by kernel_rfl) (fun _ _ _ h => h) (Or.inl ⟨by rfl, ?_⟩) (by assumption) ?_
  rotate_left
  · intro v hSw
    try dsimp only at hSw
    go_simp
    with_reducible rfl
  try simp only [Act.put, List.setIfInBounds_toArray, List.set_cons_zero, List.set_cons_succ]
  refine wpAnyH_take (i := 8) (oi := { dst := some 14, op := Op.load 3 (Operand.tmp 13), type := 3, pos := "head.go:34", after := #[{ on := 7, ground := Ground.data }], guard := none }) (v := ?_) rfl (by kernel_rfl) (by kernel_rfl) (by kernel_rfl) (fun _ _ _ h => h) (Or.inl ⟨by rfl, ?_⟩) (by assumption) ?_
  rotate_left
  · intro v hSw
    try dsimp only at hSw
    go_simp
    with_reducible rfl
  try simp only [Act.put, List.setIfInBounds_toArray, List.set_cons_zero, List.set_cons_succ]
  refine wpAnyH_take (i := 9) (oi := { dst := some 15, op := Op.convert 3 37 (Operand.tmp 14), type := 37, pos := "head.go:34", after := #[{ on := 8, ground := Ground.data }], guard := none }) (v := ?_) rfl (by kernel_rfl) (by kernel_rfl) (by kernel_rfl) (fun _ _ _ h => h) (Or.inl ⟨by rfl, ?_⟩) (by assumption) ?_
  rotate_left
  · intro v hSw
    try dsimp only at hSw
    go_simp
    with_reducible rfl
  try simp only [Act.put, List.setIfInBounds_toArray, List.set_cons_zero, List.set_cons_succ]
  refine wpAnyH_take (i := 11) (oi := { dst := some 17, op := Op.fieldAddr 39 (Operand.tmp 1) 3, type := 0, pos := "head.go:34", after := #[], guard := none }) (v := ?_) rfl (by kernel_rfl) (by kernel_rfl) (by kernel_rfl) (fun _ _ _ h => h) (Or.inl ⟨by rfl, ?_⟩) (by assumption) ?_
  rotate_left
  · intro v hSw
    try dsimp only at hSw
    go_simp
    with_reducible rfl
  try simp only [Act.put, List.setIfInBounds_toArray, List.set_cons_zero, List.set_cons_succ]
  refine wpAnyH_take (i := 12) (oi := { dst := some 18, op := Op.load 9 (Operand.tmp 17), type := 9, pos := "head.go:34", after := #[{ on := 11, ground := Ground.data }], guard := none }) (v := ?_) rfl (by kernel_rfl) (by kernel_rfl) (by kernel_rfl) (fun _ _ _ h => h) (Or.inl ⟨by rfl, ?_⟩) (by assumption) ?_
  rotate_left
  · intro v hSw
    try dsimp only at hSw
    go_simp
    with_reducible rfl
  try simp only [Act.put, List.setIfInBounds_toArray, List.set_cons_zero, List.set_cons_succ]
  refine wpAnyH_ready (rs := [0]) (by kernel_rfl) (by simp) ?_
  refine AllReadyH.cons (o := { dst := some 6, op := Op.call { callee := Callee.value (Operand.func 50), args := #[], argTypes := #[] }, type := 102, pos := "head.go:34", after := #[], guard := none }) rfl (fun K hK => ?_) AllReadyH.nil
  go_simp
  have hlt := B0.out.lt
  refine (new_any (fun k => w.heap.size + 1 ≤ k) w0.drew hlt).mono ?_
  rintro e w1 ⟨rfl, hp, hk⟩
  have P1 := Lib.hid (pk_of hp)
  have B1 := Lib.hid ((B0.out.drew).kp hk (fun e => e))
  have K1 := Lib.hid (K0.out.drew.trans hk)
  generalize Value.pointer (some ⟨w0.drew.heap.size, 0, none⟩) = p at *
  clear hp hk hlt
  go_wp2_with fail
  refine hK.out _ _ (hd_cells B1.out) (fun hHeld1 => ?_)
  clear hK K
  try simp only [Act.put, List.setIfInBounds_toArray, List.set_cons_zero, List.set_cons_succ]
  refine wpAnyH_ready (rs := [3]) (by kernel_rfl) (by simp) ?_
  refine AllReadyH.cons (o := { dst := some 9, op := Op.call { callee := Callee.value (Operand.func 51), args := #[Operand.tmp 6, Operand.const (Value.int IntKind.i64 8), Operand.tmp 8], argTypes := #[102, 3, 37] }, type := 102, pos := "head.go:34", after := #[{ on := 0, ground := Ground.data }, { on := 2, ground := Ground.data }, { on := 0, ground := Ground.chain }], guard := none }) rfl (fun K hK => ?_) AllReadyH.nil
  go_simp
  have hFN := fnew (w := w) (w' := w1) B1.out.lt
  have hcall := put_fine8 P1.out hFN h.g hg (by decide)
  refine hcall.mono ?_
  clear hcall
  rintro e w2 ⟨rfl, hp, hk⟩
  have P2 := Lib.hid hp
  have B2 := Lib.hid (B1.out.kp hk (fun e => by omega))
  have K2 := Lib.hid (K1.out.trans_new hk (fun b e => .inl (by omega)))
  clear hp hk hFN
  go_wp2_with fail
  refine hK.out _ _ (hd_cells B2.out) (fun hHeld2 => ?_)
  clear hK K
  try simp only [Act.put, List.setIfInBounds_toArray, List.set_cons_zero, List.set_cons_succ]
  refine wpAnyH_ready (rs := [6]) (by kernel_rfl) (by simp) ?_
  refine AllReadyH.cons (o := { dst := some 12, op := Op.call { callee := Callee.value (Operand.func 51), args := #[Operand.tmp 9, Operand.const (Value.int IntKind.i64 8), Operand.tmp 11], argTypes := #[102, 3, 37] }, type := 102, pos := "head.go:34", after := #[{ on := 3, ground := Ground.data }, { on := 5, ground := Ground.data }, { on := 3, ground := Ground.chain }], guard := none }) rfl (fun K hK => ?_) AllReadyH.nil
  go_simp
  have hFN := fnew (w := w) (w' := w2) B2.out.lt
  have hcall := put_fine8 P2.out hFN h.f hf (by simp [putS, beN_length])
  refine hcall.mono ?_
  clear hcall
  rintro e w3 ⟨rfl, hp, hk⟩
  have P3 := Lib.hid hp
  have B3 := Lib.hid (B2.out.kp hk (fun e => by omega))
  have K3 := Lib.hid (K2.out.trans_new hk (fun b e => .inl (by omega)))
  clear hp hk hFN
  go_wp2_with fail
  refine hK.out _ _ (hd_cells B3.out) (fun hHeld3 => ?_)
  clear hK K
  try simp only [Act.put, List.setIfInBounds_toArray, List.set_cons_zero, List.set_cons_succ]
  refine wpAnyH_ready (rs := [10]) (by kernel_rfl) (by simp) ?_
  refine AllReadyH.cons (o := { dst := some 16, op := Op.call { callee := Callee.value (Operand.func 51), args := #[Operand.tmp 12, Operand.const (Value.int IntKind.i64 2), Operand.tmp 15], argTypes := #[102, 3, 37] }, type := 102, pos := "head.go:34", after := #[{ on := 6, ground := Ground.data }, { on := 9, ground := Ground.data }, { on := 6, ground := Ground.chain }], guard := none }) rfl (fun K hK => ?_) AllReadyH.nil
  go_simp
  have hFN := fnew (w := w) (w' := w3) B3.out.lt
  have hcall := put_fine2 P3.out hFN h.n (by omega) (by simp [putS, beN_length])
  refine hcall.mono ?_
  clear hcall
  rintro e w4 ⟨rfl, hp, hk⟩
  have P4 := Lib.hid hp
  have B4 := Lib.hid (B3.out.kp hk (fun e => by omega))
  have K4 := Lib.hid (K3.out.trans_new hk (fun b e => .inl (by omega)))
  clear hp hk hFN
  go_wp2_with fail
  refine hK.out _ _ (hd_cells B4.out) (fun hHeld4 => ?_)
  clear hK K
  try simp only [Act.put, List.setIfInBounds_toArray, List.set_cons_zero, List.set_cons_succ]
  refine wpAnyH_ready (rs := [13]) (by kernel_rfl) (by simp) ?_
  refine AllReadyH.cons (o := { dst := some 19, op := Op.call { callee := Callee.value (Operand.func 52), args := #[Operand.tmp 16, Operand.tmp 18], argTypes := #[102, 9] }, type := 102, pos := "head.go:34", after := #[{ on := 10, ground := Ground.data }, { on := 12, ground := Ground.data }, { on := 10, ground := Ground.chain }], guard := none }) rfl (fun K hK => ?_) AllReadyH.nil
  go_simp
  have hFN := fnew (w := w) (w' := w4) B4.out.lt
  have hcall := name_fine P4.out hFN ⟨h.note.toArray⟩ (by rw [HNS.out]; omega) (by rw [HNS.out]; simp [putS, beN_length]; omega)
  refine hcall.mono ?_
  clear hcall
  rintro e w5 ⟨rfl, hp, hk⟩
  have P5 := Lib.hid hp
  have B5 := Lib.hid (B4.out.kp hk (fun e => by omega))
  have K5 := Lib.hid (K4.out.trans_new hk (fun b e => .inl (by omega)))
  clear hp hk hFN
  go_wp2_with fail
  refine hK.out _ _ (hd_cells B5.out) (fun hHeld5 => ?_)
  clear hK K
  try simp only [Act.put, List.setIfInBounds_toArray, List.set_cons_zero, List.set_cons_succ]
  refine wpAnyH_take (i := 14) (oi := { dst := some 3, op := Op.assign (Operand.tmp 19), type := 102, pos := "head.go:34", after := #[{ on := 13, ground := Ground.data }, { on := 13, ground := Ground.chain }, { on := 0, ground := Ground.phase }, { on := 1, ground := Ground.phase }, { on := 2, ground := Ground.phase }, { on := 3, ground := Ground.phase }, { on := 4, ground := Ground.phase }, { on := 5, ground := Ground.phase }, { on := 6, ground := Ground.phase }, { on := 7, ground := Ground.phase }, { on := 8, ground := Ground.phase }, { on := 9, ground := Ground.phase }, { on := 10, ground := Ground.phase }, { on := 11, ground := Ground.phase }, { on := 12, ground := Ground.phase }, { on := 13, ground := Ground.phase }], guard := none }) (v := ?_) rfl (by kernel_rfl) (by kernel_rfl) (by kernel_rfl) (fun _ _ _ h => h) (Or.inl ⟨by rfl, ?_⟩) (by assumption) ?_
  rotate_left
  · intro v hSw
    try dsimp only at hSw
    go_simp
    with_reducible rfl
  try simp only [Act.put, List.setIfInBounds_toArray, List.set_cons_zero, List.set_cons_succ]
  refine wpAnyH_done (by kernel_rfl) ?_ _
  go_wp2_with fail
  have hlen := hput_len h
  refine (bytes_any P5.out (by rw [hlen]; omega)).mono ?_
  rintro e w6 ⟨A6, c6, rfl, _, _, _, _, hk⟩
  have P6 := Lib.hid (P5.out.still hk)
  have K6 := Lib.hid (K5.out.trans hk)
  have B6 := Lib.hid (B5.out.kp hk (fun e => e))
  rw [hlen]
  have HLN := Lib.hid hlen
  have HC := Lib.hid hc
  have hcb : c ≤ 489 := by omega
  clear hk hlen hc hHeld hHeld1 hHeld2 hHeld3 hHeld4 hHeld5
  go_wp2_with fail
  rw [show ((508 : Int) - (19 + (h.note.length : Int))) = (c : Int) by have := HC.out; omega]
  refine (Tryd.strings_Repeat ⟨#[0]⟩ c w6 (by omega) (by rw [show (⟨#[0]⟩ : ByteArray).size = 1 from rfl, Nat.one_mul]; omega)).mono ?_
  rintro e w7 ⟨rfl, hbl⟩
  have hk := (Kp.of_below hbl).fresh (fun _ => False)
  rw [show (⟨#[0]⟩ : ByteArray).data.toList = [0] from rfl, repeat_zero]
  have P7 := Lib.hid (P6.out.still hk)
  have B7 := Lib.hid (B6.out.kp hk (fun e => e))
  have K7 := Lib.hid (K6.out.trans hk)
  clear hk hbl
  go_wp2_with fail
  have hFN := fnew (w := w) (w' := w7) B7.out.lt
  refine (text_any P7.out hFN ⟨(List.replicate c (0 : UInt8)).toArray⟩ (by rw [HLN.out, zero_size]; omega)).mono ?_
  rintro e w8 ⟨rfl, hp, hk⟩
  have P8 := Lib.hid hp
  have B8 := Lib.hid (B7.out.kp hk (fun e => by omega))
  have K8 := Lib.hid (K7.out.trans_new hk (fun b e => .inl (by omega)))
  clear hp hk hFN
  go_wp2_with fail
  have hlen : (hbody h).length = 508 := hbody_length h hnote
  rw [hbody_put h c HC.out] at P8
  obtain ⟨L, hL⟩ : ∃ L, hbody h = L := ⟨_, rfl⟩
  have hsec : hsec h = L ++ beN 4 (crcN L) := by rw [hsec, hL]
  rw [hL] at hlen P8
  have HSEC := Lib.hid hsec
  have HLEN := Lib.hid hlen
  clear hsec hL hlen
  refine (bytes_any P8.out (by rw [HLEN.out]; decide)).mono ?_
  rintro e w9 ⟨A9, c9, rfl, h91, h92, hr, _, hk⟩
  have P9 := Lib.hid (P8.out.still hk)
  have K9 := Lib.hid (K8.out.trans hk)
  have B9 := Lib.hid (B8.out.kp hk (fun e => e))
  have HR := Lib.hid hr
  clear hr hk h91 h92
  go_wp2_with fail
  refine (sum_any' A9 L c9 w9 (by rw [HLEN.out]; decide) HR.out (HT.out.kp K9.out (fun e => e))).mono ?_
  rintro e w10 ⟨rfl, rfl⟩
  have hcl := crcN_lt L
  generalize crcN L = cr at *
  go_wp2_with fail
  have hFN := fnew (w := w) (w' := w9) B9.out.lt
  refine (put_fine4 P9.out hFN cr hcl (by rw [HLEN.out]; decide)).mono ?_
  rintro e w10 ⟨rfl, hp, hk⟩
  have P10 := Lib.hid hp
  have K10 := Lib.hid (K9.out.trans_new hk (fun b e => .inl (by omega)))
  clear hp hk hFN
  go_wp2_with fail
  rw [putS_ok] at P10
  have hl2 : (L ++ beN 4 cr).length = 512 := by rw [List.length_append, HLEN.out, beN_length]
  obtain ⟨M, hM⟩ : ∃ M, L ++ beN 4 cr = M := ⟨_, rfl⟩
  rw [hM] at P10 hl2
  have HM := Lib.hid hM
  clear hM
  refine (bytes_any_own P10.out (by rw [hl2]; decide) (by rw [hl2]; decide)).mono ?_
  rintro e w11 ⟨g2, c2, rfl, h1, h2', ho, hgg, hk⟩
  rw [hl2]
  rw [hl2] at h1 ho
  have HO2 := Lib.hid ho
  have HK2 := Lib.hid hk
  clear ho hk
  go_wp2_with fail
  go_ret
  refine ⟨g2, c2, rfl, h1, h2', ?_, Nat.le_trans K10.out.size hgg, K10.out.trans HK2.out⟩
  rw [HSEC.out, HM.out]
  exact HO2.out
end Go.Proofs.YtfcljcikajaedaaDoor
