/- What wal.Format does. Conditions: the table of half bytes reads as the program's text lays it; fewer than 2^30 writes that wait. -/
import Derived.Test.YtfcljcikajaedaaDoorMg41
namespace Go.Proofs.YtfcljcikajaedaaDoor
open Go.RowKit Go.Maps

theorem isNext_lt {F : Nat → Option Sh} {f r : Nat} (h : IsNext F f r) (hf : f < 18446744073709551616) : r < 18446744073709551616 := by
  rcases h.2.2 with e | ⟨q, s, _, e⟩
  · rw [e]; exact hf
  · rw [e]; exact Nat.mod_lt _ (by decide)
theorem newOk (g f m : Nat) (note : List UInt8) (hf : f < 18446744073709551616) (hm : 96 ≤ m ∧ m ≤ 512) (hn : note.length ≤ 64) : (⟨(g + 1) % 18446744073709551616, f, m, note⟩ : Hd).ok :=
  ⟨Nat.mod_lt _ (by decide), hf, hm.1, hm.2, hn⟩
/-- What counting answers where the power is on: a head, a zero one if there is none; and the one that follows. -/
theorem countV_on {d : Dm} (hp : d.power = true) : ∃ h0 a0 ok0, a0 ≤ 1 ∧ countV d = .tuple #[.agg (hcs h0 a0).toArray, .bool ok0, .int .i64 0] ∧ ∀ f n note, d.nextH f n note = (⟨(h0.g + 1) % 18446744073709551616, f, n, note⟩, 1 - a0) := by
  unfold countV Dm.nextH
  rw [hp, if_pos rfl]
  rcases hh : d.heads with _ | ⟨h, a⟩
  · exact ⟨⟨0, 0, 0, []⟩, 0, false, by omega, rfl, fun _ _ _ => rfl⟩
  · refine ⟨h, a, true, ?_, rfl, fun _ _ _ => rfl⟩
    rcases countS_at hh with ⟨e, _⟩ | ⟨e, _⟩ <;> omega
section
variable {w : World} {b : Nat} {d : Dm} {F : Nat → Prop}
set_option maxRecDepth 100000 in
set_option maxHeartbeats 8000000 in
theorem format_any (hF : ∀ k, w.heap.size ≤ k → F k) (hD : Dsk F w b d) (ht : Tbl w) (n : Int) (note : List UInt8) (hw : d.wait.length + 1 < 1073741824) :
    Calls Tryd.prog 6 #[.pointer (some ⟨b, 0, none⟩), .int .i64 n, .string ⟨note.toArray⟩] w fun e w' => e = .returned (.int .i64 (d.formatS n note).2) ∧ Dsk F w' b (d.formatS n note).1 ∧ Kp F w w' := by
  have HF := Lib.hid hF
  have DD := Lib.hid hD
  have HT := Lib.hid ht
  have HWT := Lib.hid hw
  have hfew : d.on.length ≤ 4096 := by obtain ⟨_, _, _, h1, _⟩ := hD; exact h1.ok.few
  have hfm : d.formatS n note = if !mayFormat d n note then (d, 2) else if !d.power then (d, 4) else d.putHead (d.nextH (nextF d.nowAt n.toNat 1) n.toNat note).2 (d.nextH (nextF d.nowAt n.toNat 1) n.toNat note).1 := rfl
  have hmf : mayFormat d n note = (secsB n && decide (2 + n ≤ d.on.length) && noteB note) := rfl
  clear hF hD ht hw
  rcases hsb : secsB n with _ | _
  · have HX := Lib.hid (show d.formatS n note = (d, 2) by rw [hfm, hmf, hsb]; rfl)
    clear hfm hmf
    go_enter Tryd.func6, Tryd.ntmps6
    go_wp2_with fail
    refine (maySectors_any n w).mono ?_
    rintro e w1 ⟨rfl, rfl⟩
    rw [hsb]
    clear hsb
    go_wp2_with fail
    go_ret
    rw [HX.out]
    exact ⟨rfl, DD.out, Kp.refl _ _⟩
  obtain ⟨m, rfl⟩ : ∃ m : Nat, n = m := ⟨n.toNat, by simp only [secsB, Bool.and_eq_true, decide_eq_true_eq] at hsb; omega⟩
  have hms : 96 ≤ m ∧ m ≤ 512 := by simp only [secsB, Bool.and_eq_true, decide_eq_true_eq] at hsb; omega
  have hmt : ((m : Nat) : Int).toNat = m := by omega
  rw [hmt] at hfm
  by_cases hlen : 2 + m ≤ d.on.length
  · have hd1 : decide (2 + (m : Int) ≤ d.on.length) = true := by simp; omega
    have hd2 : decide ((d.on.length : Int) < 2 + (m : Int)) = false := by simp; omega
    rcases hnb : noteB note with _ | _
    · have HX := Lib.hid (show d.formatS m note = (d, 2) by rw [hfm, hmf, hsb, hd1, hnb]; rfl)
      clear hfm hmf hmt hd1
      have hm5 : (m : Int) ≤ 512 := by omega
      go_enter Tryd.func6, Tryd.ntmps6
      go_wp2_with fail
      refine (maySectors_any m w).mono ?_
      rintro e w1 ⟨rfl, rfl⟩
      rw [hsb]
      go_wp2_with fail
      refine (len_any DD.out).mono ?_
      rintro e w1 ⟨rfl, rfl⟩
      go_wp2_with fail
      refine (mayNote_any note w).mono ?_
      rintro e w1 ⟨rfl, rfl⟩
      rw [hnb]
      clear hsb hnb
      go_wp2_with fail
      go_ret
      rw [HX.out]
      exact ⟨rfl, DD.out, Kp.refl _ _⟩
    rcases hpw : d.power with _ | _
    · have HX := Lib.hid (show d.formatS m note = (d, 4) by rw [hfm, hmf, hsb, hd1, hnb, hpw]; rfl)
      have HCV := Lib.hid (show countV d = .tuple #[.agg #[.int .u64 0, .int .u64 0, .int .i64 0, .string ⟨#[]⟩, .int .i64 0], .bool false, .int .i64 4] by rw [countV, hpw]; rfl)
      clear hfm hmf hmt hd1 hpw
      have hm5 : (m : Int) ≤ 512 := by omega
      go_enter Tryd.func6, Tryd.ntmps6
      go_wp2_with fail
      refine (maySectors_any m w).mono ?_
      rintro e w1 ⟨rfl, rfl⟩
      rw [hsb]
      go_wp2_with fail
      refine (len_any DD.out).mono ?_
      rintro e w1 ⟨rfl, rfl⟩
      go_wp2_with fail
      refine (mayNote_any note w).mono ?_
      rintro e w1 ⟨rfl, rfl⟩
      rw [hnb]
      clear hsb hnb
      go_wp2_with fail
      refine (counting_any DD.out HT.out).mono ?_
      rintro e w1 ⟨rfl, hk⟩
      rw [HCV.out]
      have K1 := Lib.hid hk
      clear hk
      go_wp2_with fail
      go_ret
      rw [HX.out]
      exact ⟨rfl, DD.out.still (K1.out.alloc _), K1.out.of_false.alloc _⟩
    · obtain ⟨h0, a0, ok0, ha0, hcv, hnx⟩ := countV_on hpw
      simp only [hcs] at hcv
      have HX := Lib.hid (show d.formatS m note = d.putHead (1 - a0) ⟨(h0.g + 1) % 18446744073709551616, nextF d.nowAt m 1, m, note⟩ by rw [hfm, hmf, hsb, hd1, hnb, hpw, hnx]; rfl)
      have HCV := Lib.hid hcv
      have HPW := Lib.hid hpw
      have HA0 := Lib.hid ha0
      have HMS := Lib.hid hms
      have HNT := Lib.hid (show note.length ≤ 64 from of_decide_eq_true hnb)
      have hm0 : 0 < m := by omega
      have hm5 : (m : Int) ≤ 512 := by omega
      clear hfm hmf hmt hd1 hpw hcv hnx ha0 hms
      go_enter Tryd.func6, Tryd.ntmps6
      go_wp2_with fail
      refine (maySectors_any m w).mono ?_
      rintro e w1 ⟨rfl, rfl⟩
      rw [hsb]
      go_wp2_with fail
      refine (len_any DD.out).mono ?_
      rintro e w1 ⟨rfl, rfl⟩
      go_wp2_with fail
      refine (mayNote_any note w).mono ?_
      rintro e w1 ⟨rfl, rfl⟩
      rw [hnb]
      clear hsb hnb
      go_wp2_with fail
      refine (counting_any DD.out HT.out).mono ?_
      rintro e w1 ⟨rfl, hk⟩
      rw [HCV.out]
      have B2 := Lib.hid (Box.new w1 39 #[.int .u64 h0.g, .int .u64 h0.f, .int .i64 h0.n, .string ⟨h0.note.toArray⟩, .int .i64 a0])
      have K2 := Lib.hid (hk.alloc (.cells #[.int .u64 h0.g, .int .u64 h0.f, .int .i64 h0.n, .string ⟨h0.note.toArray⟩, .int .i64 a0] 39))
      have hg7 := hk.size
      clear hk
      go_upto_region 6 with fail
      generalize w1.alloc (.cells #[.int .u64 h0.g, .int .u64 h0.f, .int .i64 h0.n, .string ⟨h0.note.toArray⟩, .int .i64 a0] 39) = w2 at *
      generalize w1.heap.size = g7 at *
      have D2 := Lib.hid (DD.out.still K2.out)
      go_wp2_with fail
      refine (inPlace_any D2.out (HT.out.kp K2.out (fun e => e)) m hm0 (by omega) (by omega) HPW.out).mono ?_
      rintro e w3 ⟨gm, rfl, _, hfm3, hk3⟩
      have B3 := Lib.hid (B2.out.kp hk3 (fun e => e))
      have K3 := Lib.hid (K2.out.trans hk3)
      have F3 := Lib.hid hfm3
      have hglt := B3.out.lt
      have hmg : gm ≠ g7 := by
        rintro rfl
        obtain ⟨n1, D1, ⟨es, clock, hb, _⟩, _⟩ := hfm3
        have := B3.out
        unfold Box at this
        rw [hb] at this
        cases this
      clear hfm3 hk3
      have c2 := B3.out.cell 2
      have c3 := B3.out.cell 3
      have f2 := B3.out.free 2
      have f3 := B3.out.free 3
      simp at c2 c3
      go_upto_region 12 with fail
      have B6 := Lib.hid (show Box ((w3.setCell ⟨g7, 2, none⟩ (.int .i64 m)).setCell ⟨g7, 3, none⟩ (.string ⟨note.toArray⟩)) g7 39 #[.int .u64 h0.g, .int .u64 h0.f, .int .i64 m, .string ⟨note.toArray⟩, .int .i64 a0] from (B3.out.put 2 (.int .i64 m)).put 3 (.string ⟨note.toArray⟩))
      have K6 := Lib.hid ((K3.out.setCell (p := ⟨g7, 2, none⟩) (.inl hg7) (.int .i64 m)).setCell (p := ⟨g7, 3, none⟩) (.inl hg7) (.string ⟨note.toArray⟩))
      have FM := Lib.hid (F3.out.kp ((Kp.one w3 g7 2 (.int .i64 m)).trans (Kp.one _ g7 3 (.string ⟨note.toArray⟩))) hmg)
      clear c2 c3 f2 f3
      generalize ((w3.setCell ⟨g7, 2, none⟩ (.int .i64 m)).setCell ⟨g7, 3, none⟩ (.string ⟨note.toArray⟩)) = w6 at *
      refine wp_region_held_drew (S := fun v => v.cell? ⟨g7, 0, none⟩ = some (.int .u64 h0.g) ∧ v.cell? ⟨g7, 1, none⟩ = some (.int .u64 h0.f) ∧ v.cell? ⟨g7, 2, none⟩ = some (.int .i64 m) ∧ v.cell? ⟨g7, 3, none⟩ = some (.string ⟨note.toArray⟩) ∧ v.cell? ⟨g7, 4, none⟩ = some (.int .i64 a0)) (by kernel_rfl) (⟨(B6.out.cell 0), (B6.out.cell 1), (B6.out.cell 2), (B6.out.cell 3), (B6.out.cell 4)⟩) (fun hHeld => ?_)
      refine wpAnyH_take (i := 0) (oi := { dst := some 50, op := Op.load 39 (Operand.tmp 7), type := 39, pos := "wal.go:39", after := #[], guard := none }) (v := ?_) rfl (by kernel_rfl) (by kernel_rfl) (by kernel_rfl) (fun _ _ _ h => h) (Or.inl ⟨by rfl, ?_⟩) (by assumption) ?_
      rotate_left
      · intro v hSw
        try dsimp only at hSw
        go_simp
        with_reducible rfl
      try simp only [Act.put, List.setIfInBounds_toArray, List.set_cons_zero, List.set_cons_succ]
      refine wpAnyH_take (i := 1) (oi := { dst := some 51, op := Op.move (Operand.tmp 10), type := 42, pos := "wal.go:39", after := #[], guard := none }) (v := ?_) rfl (by kernel_rfl) (by kernel_rfl) (by kernel_rfl) (fun _ _ _ h => h) (Or.inl ⟨by rfl, ?_⟩) (by assumption) ?_
      rotate_left
      · intro v hSw
        try dsimp only at hSw
        go_simp
        with_reducible rfl
      try simp only [Act.put, List.setIfInBounds_toArray, List.set_cons_zero, List.set_cons_succ]
      refine wpAnyH_take (i := 4) (oi := { dst := some 54, op := Op.move (Operand.tmp 0), type := 34, pos := "wal.go:39", after := #[], guard := none }) (v := ?_) rfl (by kernel_rfl) (by kernel_rfl) (by kernel_rfl) (fun _ _ _ h => h) (Or.inl ⟨by rfl, ?_⟩) (by assumption) ?_
      rotate_left
      · intro v hSw
        try dsimp only at hSw
        go_simp
        with_reducible rfl
      try simp only [Act.put, List.setIfInBounds_toArray, List.set_cons_zero, List.set_cons_succ]
      refine wpAnyH_ready (rs := [2]) (by kernel_rfl) (by simp) ?_
      refine AllReadyH.cons (o := { dst := some 52, op := Op.call { callee := Callee.value (Operand.func 16), args := #[Operand.tmp 51, Operand.const (Value.int IntKind.u64 1)], argTypes := #[42, 37] }, type := 37, pos := "wal.go:39", after := #[{ on := 1, ground := Ground.data }], guard := none }) rfl (fun K hK => ?_) AllReadyH.nil
      go_simp
      refine (behind_any (FM.out.kp (Kp.refl (fun _ => False) w6).drew (fun e => e)) (fun q s hs => by have h1 := sheetF_q hs; rw [← h1.1]; exact (takeS_lt h1.2).1) 1 (by decide)).mono ?_
      rintro e w7 ⟨r, rfl, hr, hk⟩
      have B7 := Lib.hid ((B6.out.drew).kp hk (fun e => e))
      have K7 := Lib.hid (K6.out.drew.trans hk)
      have HRN := Lib.hid (hr.one (nextF_is d.nowAt m 1 hm0))
      have HRL := Lib.hid (isNext_lt hr (by decide))
      clear hr hk
      go_wp2_with fail
      refine hK.out _ _ (⟨(B7.out.cell 0), (B7.out.cell 1), (B7.out.cell 2), (B7.out.cell 3), (B7.out.cell 4)⟩) (fun hHeld1 => ?_)
      clear hK K
      try simp only [Act.put, List.setIfInBounds_toArray, List.set_cons_zero, List.set_cons_succ]
      refine wpAnyH_ready (rs := [3]) (by kernel_rfl) (by simp) ?_
      refine AllReadyH.cons (o := { dst := some 53, op := Op.call { callee := Callee.value (Operand.func 20), args := #[Operand.tmp 50, Operand.tmp 52], argTypes := #[39, 37] }, type := 39, pos := "wal.go:39", after := #[{ on := 0, ground := Ground.data }, { on := 2, ground := Ground.data }, { on := 2, ground := Ground.chain }], guard := none }) rfl (fun K hK => ?_) AllReadyH.nil
      go_simp
      have hfo := follow_any ⟨h0.g, h0.f, m, note⟩ a0 r w7 HA0.out
      simp only [hcs] at hfo
      refine hfo.mono ?_
      clear hfo
      rintro e w8 ⟨rfl, hk⟩
      have B8 := Lib.hid (B7.out.kp hk (fun e => e))
      have K8 := Lib.hid (K7.out.trans hk)
      have D8 := Lib.hid (DD.out.still K8.out)
      clear hk
      go_wp2_with fail
      refine hK.out _ _ (⟨(B8.out.cell 0), (B8.out.cell 1), (B8.out.cell 2), (B8.out.cell 3), (B8.out.cell 4)⟩) (fun hHeld2 => ?_)
      clear hK K
      try simp only [Act.put, List.setIfInBounds_toArray, List.set_cons_zero, List.set_cons_succ]
      refine wpAnyH_ready (rs := [5]) (by kernel_rfl) (by simp) ?_
      refine AllReadyH.cons (o := { dst := some 55, op := Op.call { callee := Callee.value (Operand.func 21), args := #[Operand.tmp 53, Operand.tmp 54], argTypes := #[39, 34] }, type := 25, pos := "wal.go:39", after := #[{ on := 3, ground := Ground.data }, { on := 4, ground := Ground.data }, { on := 3, ground := Ground.chain }], guard := none }) rfl (fun K hK => ?_) AllReadyH.nil
      go_simp
      have hwr := hwrite_any (newG HF.out K8.out.size) D8.out.bothG (HT.out.kp K8.out (fun e => e)) ⟨(h0.g + 1) % 18446744073709551616, r, m, note⟩ (1 - a0) (newOk h0.g r m note HRL.out HMS.out HNT.out) HWT.out
      simp only [hcs] at hwr
      refine hwr.mono ?_
      clear hwr
      rintro e w9 ⟨rfl, hd, hk⟩
      have D9 := Lib.hid (hd.mono (F' := F) (fun _ e => e.1))
      have K9 := Lib.hid (K8.out.of_false.trans (hk.mono (fun _ _ e => e.1)))
      have B9 := Lib.hid (B8.out.kp hk (fun e => not_DT B8.out ⟨by decide, by decide, by decide⟩ e.2))
      clear hd hk
      go_wp2_with fail
      refine hK.out _ _ (⟨(B9.out.cell 0), (B9.out.cell 1), (B9.out.cell 2), (B9.out.cell 3), (B9.out.cell 4)⟩) (fun hHeld3 => ?_)
      clear hK K
      try simp only [Act.put, List.setIfInBounds_toArray, List.set_cons_zero, List.set_cons_succ]
      refine wpAnyH_take (i := 6) (oi := { dst := some 6, op := Op.assign (Operand.tmp 55), type := 25, pos := "wal.go:39", after := #[{ on := 5, ground := Ground.data }, { on := 5, ground := Ground.chain }, { on := 0, ground := Ground.phase }, { on := 1, ground := Ground.phase }, { on := 2, ground := Ground.phase }, { on := 3, ground := Ground.phase }, { on := 4, ground := Ground.phase }, { on := 5, ground := Ground.phase }], guard := none }) (v := ?_) rfl (by kernel_rfl) (by kernel_rfl) (by kernel_rfl) (fun _ _ _ h => h) (Or.inl ⟨by rfl, ?_⟩) (by assumption) ?_
      rotate_left
      · intro v hSw
        try dsimp only at hSw
        go_simp
        with_reducible rfl
      try simp only [Act.put, List.setIfInBounds_toArray, List.set_cons_zero, List.set_cons_succ]
      refine wpAnyH_done (by kernel_rfl) ?_ _
      go_wp2_with fail
      go_ret
      rw [HX.out, ← HRN.out]
      exact ⟨rfl, D9.out, K9.out⟩
  · have hd1 : decide (2 + (m : Int) ≤ d.on.length) = false := by simp; omega
    have hd2 : decide ((d.on.length : Int) < 2 + (m : Int)) = true := by simp; omega
    have HX := Lib.hid (show d.formatS m note = (d, 2) by rw [hfm, hmf, hsb, hd1]; rfl)
    clear hfm hmf hmt hd1
    have hm5 : (m : Int) ≤ 512 := by omega
    go_enter Tryd.func6, Tryd.ntmps6
    go_wp2_with fail
    refine (maySectors_any m w).mono ?_
    rintro e w1 ⟨rfl, rfl⟩
    rw [hsb]
    go_wp2_with fail
    refine (len_any DD.out).mono ?_
    rintro e w1 ⟨rfl, rfl⟩
    clear hsb
    go_wp2_with fail
    go_ret
    rw [HX.out]
    exact ⟨rfl, DD.out, Kp.refl _ _⟩
end
set_option maxHeartbeats 400000 in
theorem format_nil (w : World) (n : Int) (s : ByteArray) :
    Calls Tryd.prog 6 #[.pointer none, .int .i64 n, .string s] w fun e w' => e = .returned (.int .i64 1) ∧ w = w' := by
  go_enter Tryd.func6, Tryd.ntmps6
  go_wp2_with fail
  go_ret
  exact ⟨rfl, rfl⟩
end Go.Proofs.YtfcljcikajaedaaDoor
