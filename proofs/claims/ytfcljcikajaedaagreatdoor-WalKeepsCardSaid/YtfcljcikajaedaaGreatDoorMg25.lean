/- What wal's head.write does: a head is written, and the disk flushed. Conditions: the table of half bytes reads as the program's text lays it; a head that may be; fewer than 2^30 writes that wait. -/
import Derived.Test.YtfcljcikajaedaaGreatDoorMg23
import Derived.Test.YtfcljcikajaedaaGreatDoorMg24
namespace Go.Proofs.YtfcljcikajaedaaGreatDoor
open Go.RowKit Go.Maps

theorem hd5_cells {w : World} {g : Nat} {t : TypeId} {h : Hd} {a : Nat} (hb : Box w g t (hcs h a).toArray) : w.cell? ⟨g, 0, none⟩ = some (.int .u64 h.g) ∧ w.cell? ⟨g, 1, none⟩ = some (.int .u64 h.f) ∧ w.cell? ⟨g, 2, none⟩ = some (.int .i64 h.n) ∧ w.cell? ⟨g, 3, none⟩ = some (.string ⟨h.note.toArray⟩) ∧ w.cell? ⟨g, 4, none⟩ = some (.int .i64 a) := ⟨hb.cell 0, hb.cell 1, hb.cell 2, hb.cell 3, hb.cell 4⟩
theorem own_off_type {w : World} {base : Nat} {e t : TypeId} {size n g c : Nat} {xs : List Value} (ho : w.ownsRow base e size (.slice (some ⟨g, 0, none⟩) n c) n xs) (hne : e ≠ t) : ∀ ad : Addr, some (⟨g, 0, none⟩ : Addr) = some ad → ∀ cs fr, w.heap[ad.block]? ≠ some (.cells cs t fr) := by
  rintro ad e1 cs fr hh
  cases e1
  obtain ⟨cur, hc⟩ := own_block ho (k := g) (by simp [Value.ownBlock])
  rw [hc] at hh
  injection hh with hh
  injection hh with _ h2
  exact hne h2
section
variable {w : World} {b : Nat} {d : Dm} {F : Nat → Prop}
set_option maxRecDepth 100000 in
set_option maxHeartbeats 4000000 in
theorem hwrite_any (hF : ∀ k, w.heap.size ≤ k → F k) (hD : Dsk F w b d) (ht : Tbl w) (h : Hd) (a : Nat) (ok : h.ok) (hw : d.wait.length + 1 < 1073741824) :
    Calls Tryz.prog 41 #[.agg (hcs h a).toArray, .pointer (some ⟨b, 0, none⟩)] w fun e w' => e = .returned (.int .i64 (d.putHead a h).2) ∧ Dsk F w' b (d.putHead a h).1 ∧ Kp F w w' := by
  have HF := Lib.hid hF
  have DD := Lib.hid hD
  have HT := Lib.hid ht
  have OK := Lib.hid ok
  have HW := Lib.hid hw
  have HLN := Lib.hid (hsec_length h ok.note_)
  have hp : d.putHead a h = if (d.writeS a (hsec h)).2 = 0 then (d.writeS a (hsec h)).1.flushS else d.writeS a (hsec h) := by
    unfold Dm.putHead
    rcases d.writeS a (hsec h) with ⟨d1, e⟩
    dsimp only
  have HP := Lib.hid hp
  clear hF hD ht ok hw hp
  have B0 := Lib.hid (Box.new w 84 (hcs h a).toArray)
  have K0 := Lib.hid ((Kp.refl (fun _ => False) w).alloc (.cells (hcs h a).toArray 84))
  go_enter Tryz.func41, Tryz.ntmps41
  go_upto_region 1 with fail
  generalize w.alloc (.cells (hcs h a).toArray 84) = w0 at *
  refine wp_region_held_drew (S := fun v => v.cell? ⟨w.heap.size, 0, none⟩ = some (.int .u64 h.g) ∧ v.cell? ⟨w.heap.size, 1, none⟩ = some (.int .u64 h.f) ∧ v.cell? ⟨w.heap.size, 2, none⟩ = some (.int .i64 h.n) ∧ v.cell? ⟨w.heap.size, 3, none⟩ = some (.string ⟨h.note.toArray⟩) ∧ v.cell? ⟨w.heap.size, 4, none⟩ = some (.int .i64 a)) (by kernel_rfl) (hd5_cells B0.out) (fun hHeld => ?_)
  refine wpAnyH_take (i := 0) (oi := { dst := some 6, op := Op.move (Operand.tmp 1), type := 32, pos := "head.go:80", after := #[], guard := none }) (v := ?_) rfl (by kernel_rfl) (by kernel_rfl) (by kernel_rfl) (fun _ _ _ h => h) (Or.inl ⟨by rfl, ?_⟩) (by assumption) ?_
  rotate_left
  · intro v hSw
    try dsimp only at hSw
    go_simp
    with_reducible rfl
  try simp only [Act.put, List.setIfInBounds_toArray, List.set_cons_zero, List.set_cons_succ]
  refine wpAnyH_take (i := 1) (oi := { dst := some 7, op := Op.fieldAddr 84 (Operand.tmp 2) 4, type := 0, pos := "head.go:80", after := #[], guard := none }) (v := ?_) rfl (by kernel_rfl) (by kernel_rfl) (by kernel_rfl) (fun _ _ _ h => h) (Or.inl ⟨by rfl, ?_⟩) (by assumption) ?_
  rotate_left
  · intro v hSw
    try dsimp only at hSw
    go_simp
    with_reducible rfl
  try simp only [Act.put, List.setIfInBounds_toArray, List.set_cons_zero, List.set_cons_succ]
  refine wpAnyH_take (i := 2) (oi := { dst := some 8, op := Op.load 3 (Operand.tmp 7), type := 3, pos := "head.go:80", after := #[{ on := 1, ground := Ground.data }], guard := none }) (v := ?_) rfl (by kernel_rfl) (by kernel_rfl) (by kernel_rfl) (fun _ _ _ h => h) (Or.inl ⟨by rfl, ?_⟩) (by assumption) ?_
  rotate_left
  · intro v hSw
    try dsimp only at hSw
    go_simp
    with_reducible rfl
  try simp only [Act.put, List.setIfInBounds_toArray, List.set_cons_zero, List.set_cons_succ]
  refine wpAnyH_take (i := 3) (oi := { dst := some 9, op := Op.load 84 (Operand.tmp 2), type := 84, pos := "head.go:80", after := #[], guard := none }) (v := ?_) rfl (by kernel_rfl) (by kernel_rfl) (by kernel_rfl) (fun _ _ _ h => h) (Or.inl ⟨by rfl, ?_⟩) (by assumption) ?_
  rotate_left
  · intro v hSw
    try dsimp only at hSw
    go_simp
    with_reducible rfl
  try simp only [Act.put, List.setIfInBounds_toArray, List.set_cons_zero, List.set_cons_succ]
  refine wpAnyH_ready (rs := [4]) (by kernel_rfl) (by simp) ?_
  refine AllReadyH.cons (o := { dst := some 10, op := Op.call { callee := Callee.value (Operand.func 69), args := #[Operand.tmp 9], argTypes := #[84] }, type := 31, pos := "head.go:80", after := #[{ on := 3, ground := Ground.data }], guard := none }) rfl (fun K hK => ?_) AllReadyH.nil
  go_simp
  refine (hbytes_any h a w0.drew OK.out (HT.out.kp K0.out.drew (fun e => e))).mono ?_
  rintro e w1 ⟨g, c, rfl, _, _, ho, hg, hk⟩
  have B1 := Lib.hid ((B0.out.drew).kp hk (fun e => e))
  have K1 := Lib.hid (K0.out.drew.trans hk)
  have D1 := Lib.hid (DD.out.still K1.out)
  have R1 := Lib.hid (Rd.of_own ho)
  have N1 := Lib.hid (own_off_type (t := 157) ho (by decide))
  clear ho hk
  go_wp2_with fail
  refine hK.out _ _ (hd5_cells B1.out) (fun hHeld1 => ?_)
  clear hK K
  try simp only [Act.put, List.setIfInBounds_toArray, List.set_cons_zero, List.set_cons_succ]
  refine wpAnyH_ready (rs := [5]) (by kernel_rfl) (by simp) ?_
  refine AllReadyH.cons (o := { dst := some 11, op := Op.call { callee := Callee.value (Operand.func 68), args := #[Operand.tmp 6, Operand.tmp 8, Operand.tmp 10], argTypes := #[32, 3, 31] }, type := 47, pos := "head.go:80", after := #[{ on := 0, ground := Ground.data }, { on := 2, ground := Ground.data }, { on := 4, ground := Ground.data }, { on := 4, ground := Ground.chain }], guard := none }) rfl (fun K hK => ?_) AllReadyH.nil
  go_simp
  have hwr := write_any (newG HF.out K1.out.size) D1.out.bothG a (some ⟨g, 0, none⟩) (hsec h) c R1.out N1.out HW.out
  rw [HLN.out] at hwr
  refine hwr.mono ?_
  clear hwr
  rintro e w2 ⟨rfl, hd, hk⟩
  have D2 := Lib.hid (hd.mono (F' := F) (fun _ e => e.1))
  have K2 := Lib.hid ((K1.out.of_false (S := F)).trans (hk.mono (fun _ _ e => e.1)))
  have B2 := Lib.hid (B1.out.kp hk (fun e => not_DT B1.out ⟨by decide, by decide, by decide⟩ e.2))
  clear hd hk
  go_wp2_with fail
  refine hK.out _ _ (hd5_cells B2.out) (fun hHeld2 => ?_)
  clear hK K
  try simp only [Act.put, List.setIfInBounds_toArray, List.set_cons_zero, List.set_cons_succ]
  refine wpAnyH_take (i := 6) (oi := { dst := some 5, op := Op.assign (Operand.tmp 11), type := 47, pos := "head.go:80", after := #[{ on := 5, ground := Ground.data }, { on := 5, ground := Ground.chain }, { on := 0, ground := Ground.phase }, { on := 1, ground := Ground.phase }, { on := 2, ground := Ground.phase }, { on := 3, ground := Ground.phase }, { on := 4, ground := Ground.phase }, { on := 5, ground := Ground.phase }], guard := none }) (v := ?_) rfl (by kernel_rfl) (by kernel_rfl) (by kernel_rfl) (fun _ _ _ h => h) (Or.inl ⟨by rfl, ?_⟩) (by assumption) ?_
  rotate_left
  · intro v hSw
    try dsimp only at hSw
    go_simp
    with_reducible rfl
  try simp only [Act.put, List.setIfInBounds_toArray, List.set_cons_zero, List.set_cons_succ]
  refine wpAnyH_done (by kernel_rfl) ?_ _
  by_cases he : (d.writeS a (hsec h)).2 = 0
  · rw [if_pos he] at HP
    rw [he]
    clear he hHeld hHeld1 hHeld2
    go_wp2_with fail
    refine (flush_any D2.out).mono ?_
    rintro e w3 ⟨rfl, hd, hk⟩
    have D3 := Lib.hid hd
    have K3 := Lib.hid (K2.out.trans hk)
    clear hd hk
    go_wp2_with fail
    go_ret
    rw [HP.out]
    exact ⟨rfl, D3.out, K3.out⟩
  · rw [if_neg he] at HP
    obtain ⟨x, hx⟩ : ∃ x, (d.writeS a (hsec h)).2 = x := ⟨_, rfl⟩
    have hne : (x != 0) = true := by simpa [hx] using he
    rw [hx]
    have HX := Lib.hid hx
    clear he hx hHeld hHeld1 hHeld2
    go_wp2_with fail
    go_ret
    rw [HP.out]
    exact ⟨by rw [HX.out]; rfl, D2.out, K2.out⟩
end
end Go.Proofs.YtfcljcikajaedaaGreatDoor
