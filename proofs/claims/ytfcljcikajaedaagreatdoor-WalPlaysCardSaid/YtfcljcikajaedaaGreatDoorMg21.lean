/- The blocks of a disk told by their types: what else lies in memory stays as it was. No condition. -/
import Derived.Test.YtfcljcikajaedaaGreatDoorMg12
import Derived.Test.YtfcljcikajaedaaGreatDoorMg3
import Derived.Test.YtfcljcikajaedaaGreatDoorMg20
namespace Go.Proofs.YtfcljcikajaedaaGreatDoor
open Go.RowKit Go.Maps

theorem Dsk.bothG {G : Nat → Prop} {w : World} {b : Nat} {d : Dm} (h : Dsk G w b d) : Dsk (fun k => G k ∧ DT w k) w b d := by
  obtain ⟨vs, vw, gm, h1, h2⟩ := h
  refine ⟨vs, vw, gm, h1, fun k hk => ⟨h2 k hk, ?_⟩⟩
  rcases hk with rfl | e | e | rfl
  · exact .inr (.inl ⟨_, _, h1.box⟩)
  · obtain ⟨cur, hc⟩ := own_block h1.st e; exact .inr (.inr (.inl ⟨_, _, hc⟩))
  · obtain ⟨cur, hc⟩ := own_block h1.wt e; exact .inr (.inr (.inr (.inl ⟨_, _, hc⟩)))
  · obtain ⟨n, D, ⟨es, clock, hm, _⟩, _⟩ := h1.nm; exact .inr (.inr (.inr (.inr ⟨_, _, hm⟩)))
theorem Dsk.off {F : Nat → Prop} {w w' : World} {b : Nat} {d : Dm} {g : Nat} {t : TypeId} {cs : Array Value} (h : Dsk F w b d) (hg : Box w g t cs) (ht : LT t) (hk : Kp (fun k => k = g) w w') : Dsk F w' b d := by
  obtain ⟨vs, vw, gm, h1, h2⟩ := h
  refine ⟨vs, vw, gm, h1.kp hk fun k hf e => ?_, h2⟩
  have e' : k = g := e
  subst e'
  rcases hf with rfl | e | e | rfl
  · exact Box.type_ne hg h1.box ht.1 rfl
  · obtain ⟨cur, hc⟩ := own_block h1.st e; exact Box.type_ne hg hc ht.2.1 rfl
  · obtain ⟨cur, hc⟩ := own_block h1.wt e; exact Box.type_ne hg hc ht.2.2 rfl
  · obtain ⟨n, D, ⟨es, clock, hm, _⟩, _⟩ := h1.nm; unfold Box at hg; rw [hm] at hg; cases hg
theorem DT.back {w W : World} {k : Nat} (hk : k < w.heap.size) (h : DT W k) (he : W.heap[k]? = w.heap[k]?) (hs : w.heap.size ≤ W.heap.size) : DT w k := by
  rcases h with h | h | h | h | h
  · exact absurd (Nat.lt_of_lt_of_le hk hs) (Nat.not_lt.2 h)
  all_goals (rw [he] at h)
  · exact .inr (.inl h)
  · exact .inr (.inr (.inl h))
  · exact .inr (.inr (.inr (.inl h)))
  · exact .inr (.inr (.inr (.inr h)))
theorem Kp.dtrans {G : Nat → Prop} {w W W1 : World} (h : Kp (fun k => G k ∧ DT w k) w W) (h1 : Kp (fun k => G k ∧ DT W k) W W1) : Kp (fun k => G k ∧ DT w k) w W1 :=
  ⟨h1.os.trans h.os, h1.tape.trans h.tape, h1.output.trans h.output, Nat.le_trans h.size h1.size, fun k hk hn => by
    have e := h.block k hk hn
    rw [h1.block k (Nat.lt_of_lt_of_le hk h.size) (fun hh => hn ⟨hh.1, hh.2.back hk e h.size⟩)]
    exact e⟩
theorem newG {G : Nat → Prop} {w W : World} (hG : ∀ k, w.heap.size ≤ k → G k) (hs : w.heap.size ≤ W.heap.size) : ∀ k, W.heap.size ≤ k → G k ∧ DT W k := fun k h => ⟨hG k (Nat.le_trans hs h), .inl h⟩
theorem Dsk.fit {F : Nat → Prop} {w : World} {b : Nat} {d : Dm} (h : Dsk F w b d) : ∃ F', Dsk F' w b d ∧ ∀ q, F' q → F q ∧ q < w.heap.size := by
  obtain ⟨vs, vw, gm, h1, h2⟩ := h
  exact ⟨_, ⟨vs, vw, gm, h1, fun _ e => e⟩, fun q e => ⟨h2 q e, h1.lt q e⟩⟩
end Go.Proofs.YtfcljcikajaedaaGreatDoor

/- What wal's head.write does: a head is written, and the disk flushed. Conditions: the table of half bytes reads as the program's text lays it; a head that may be; fewer than 2^30 writes that wait. -/
namespace Go.Proofs.YtfcljcikajaedaaGreatDoor
open Go.RowKit Go.Maps

theorem hd5_cells {w : World} {g : Nat} {t : TypeId} {h : Hd} {a : Nat} (hb : Box w g t (hcs h a).toArray) : w.cell? ⟨g, 0, none⟩ = some (.int .u64 h.g) ∧ w.cell? ⟨g, 1, none⟩ = some (.int .u64 h.f) ∧ w.cell? ⟨g, 2, none⟩ = some (.int .i64 h.n) ∧ w.cell? ⟨g, 3, none⟩ = some (.string ⟨h.note.toArray⟩) ∧ w.cell? ⟨g, 4, none⟩ = some (.int .i64 a) := ⟨hb.cell 0, hb.cell 1, hb.cell 2, hb.cell 3, hb.cell 4⟩
theorem own_off_type {w : World} {base : Nat} {e t : TypeId} {size n g c : Nat} {xs : List Value} (ho : w.ownsRow base e size (.slice (some ⟨g, 0, none⟩) n c) n xs) (hne : e ≠ t) : ∀ ad : Addr, some (⟨g, 0, none⟩ : Addr) = some ad → ∀ cs fr, w.heap[ad.block]? ≠ some (.cells cs t fr) := by
  rintro ad e1 cs fr hh
  cases e1
  obtain ⟨cur, hc⟩ := own_block ho (k := g) (by simp [Value.ownBlock])
  rw [hc] at hh
  injection hh with hh
  injection hh with _ h2
  exact hne h2
section
variable {w : World} {b : Nat} {d : Dm} {F : Nat → Prop}
set_option maxRecDepth 100000 in
set_option maxHeartbeats 4000000 in
theorem hwrite_any (hF : ∀ k, w.heap.size ≤ k → F k) (hD : Dsk F w b d) (ht : Tbl w) (h : Hd) (a : Nat) (ok : h.ok) (hw : d.wait.length + 1 < 1073741824) :
    Calls Tryz.prog 41 #[.agg (hcs h a).toArray, .pointer (some ⟨b, 0, none⟩)] w fun e w' => e = .returned (.int .i64 (d.putHead a h).2) ∧ Dsk F w' b (d.putHead a h).1 ∧ Kp F w w' := by
  have HF := Lib.hid hF
  have DD := Lib.hid hD
  have HT := Lib.hid ht
  have OK := Lib.hid ok
  have HW := Lib.hid hw
  have HLN := Lib.hid (hsec_length h ok.note_)
  have hp : d.putHead a h = if (d.writeS a (hsec h)).2 = 0 then (d.writeS a (hsec h)).1.flushS else d.writeS a (hsec h) := by
    unfold Dm.putHead
    rcases d.writeS a (hsec h) with ⟨d1, e⟩
    dsimp only
  have HP := Lib.hid hp
  clear hF hD ht ok hw hp
  have B0 := Lib.hid (Box.new w 84 (hcs h a).toArray)
  have K0 := Lib.hid ((Kp.refl (fun _ => False) w).alloc (.cells (hcs h a).toArray 84))
  go_enter Tryz.func41, Tryz.ntmps41
  go_upto_region 1 with fail
  generalize w.alloc (.cells (hcs h a).toArray 84) = w0 at *
  refine wp_region_held_drew (S := fun v => v.cell? ⟨w.heap.size, 0, none⟩ = some (.int .u64 h.g) ∧ v.cell? ⟨w.heap.size, 1, none⟩ = some (.int .u64 h.f) ∧ v.cell? ⟨w.heap.size, 2, none⟩ = some (.int .i64 h.n) ∧ v.cell? ⟨w.heap.size, 3, none⟩ = some (.string ⟨h.note.toArray⟩) ∧ v.cell? ⟨w.heap.size, 4, none⟩ = some (.int .i64 a)) (by kernel_rfl) (hd5_cells B0.out) (fun hHeld => ?_)
  refine tk 0 (h := ?_)
  refine tk 1 (h := ?_)
  refine tk 2 (h := ?_)
  refine tk 3 (h := ?_)
  refine rd 4 (h := fun K hK => ?_)
  go_simp
  refine (hbytes_any h a w0.drew OK.out (HT.out.kp K0.out.drew (fun e => e))).mono ?_
  rintro e w1 ⟨g, c, rfl, _, _, ho, hg, hk⟩
  have B1 := Lib.hid ((B0.out.drew).kp hk (fun e => e))
  have K1 := Lib.hid (K0.out.drew.trans hk)
  have D1 := Lib.hid (DD.out.still K1.out)
  have R1 := Lib.hid (Rd.of_own ho)
  have N1 := Lib.hid (own_off_type (t := 157) ho (by decide))
  clear ho hk
  go_wp2_with fail
  refine hK.out _ _ (hd5_cells B1.out) (fun hHeld1 => ?_)
  clear hK K
  try simp only [Act.put, List.setIfInBounds_toArray, List.set_cons_zero, List.set_cons_succ]
  refine rd 5 (h := fun K hK => ?_)
  go_simp
  have hwr := write_any (newG HF.out K1.out.size) D1.out.bothG a (some ⟨g, 0, none⟩) (hsec h) c R1.out N1.out HW.out
  rw [HLN.out] at hwr
  refine hwr.mono ?_
  clear hwr
  rintro e w2 ⟨rfl, hd, hk⟩
  have D2 := Lib.hid (hd.mono (F' := F) (fun _ e => e.1))
  have K2 := Lib.hid ((K1.out.of_false (S := F)).trans (hk.mono (fun _ _ e => e.1)))
  have B2 := Lib.hid (B1.out.kp hk (fun e => not_DT B1.out ⟨by decide, by decide, by decide⟩ e.2))
  clear hd hk
  go_wp2_with fail
  refine hK.out _ _ (hd5_cells B2.out) (fun hHeld2 => ?_)
  clear hK K
  try simp only [Act.put, List.setIfInBounds_toArray, List.set_cons_zero, List.set_cons_succ]
  refine tk 6 (h := ?_)
  refine wpAnyH_done (by kernel_rfl) ?_ _
  by_cases he : (d.writeS a (hsec h)).2 = 0
  · rw [if_pos he] at HP
    rw [he]
    clear he hHeld hHeld1 hHeld2
    go_wp2_with fail
    refine (flush_any D2.out).mono ?_
    rintro e w3 ⟨rfl, hd, hk⟩
    have D3 := Lib.hid hd
    have K3 := Lib.hid (K2.out.trans hk)
    clear hd hk
    go_wp2_with fail
    go_ret
    rw [HP.out]
    exact ⟨rfl, D3.out, K3.out⟩
  · rw [if_neg he] at HP
    obtain ⟨x, hx⟩ : ∃ x, (d.writeS a (hsec h)).2 = x := ⟨_, rfl⟩
    have hne : (x != 0) = true := by simpa [hx] using he
    rw [hx]
    have HX := Lib.hid hx
    clear he hx hHeld hHeld1 hHeld2
    go_wp2_with fail
    go_ret
    rw [HP.out]
    exact ⟨by rw [HX.out]; rfl, D2.out, K2.out⟩
end
end Go.Proofs.YtfcljcikajaedaaGreatDoor
