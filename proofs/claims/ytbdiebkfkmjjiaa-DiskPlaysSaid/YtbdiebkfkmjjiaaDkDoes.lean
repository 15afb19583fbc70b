/- An act, in both disks: they answer alike, and are alike. Conditions: the disk's own; fewer than 2^30 writes that wait. -/
import Derived.Test.YtbdiebkfkmjjiaaDkDoesA
namespace Go.Proofs.Ytbdiebkfkmjjiaa
open Go.RowKit Go.Maps

set_option maxRecDepth 100000 in
set_option maxHeartbeats 4000000 in
theorem does_any {G : Nat → Prop} {w : World} {b : Nat} {d : Dm} {vo vw : Value} (hG : ∀ k, w.heap.size ≤ k → G k) (hD : Dsk G w b d) (hr : Rf w vo vw d) (x : Ac) (hx : x.Ok) (hw : d.wait.length + 1 < 1073741824) :
    Calls Try.prog 11 #[.pointer (some ⟨b, 0, none⟩), .agg (rcs d vo vw), .agg x.cells] w fun e w' => ∃ vo' vw', e = .returned (.tuple #[.agg (rcs (d.next x) vo' vw'), .bool true]) ∧ Rf w' vo' vw' (d.next x) ∧ Dsk G w' b (d.next x) ∧ Kp (fun k => G k ∧ DT w k) w w' := by
  have Hr : Hid (Try.f11.results = #[.cell 6 33, .tmp 7]) := Lib.hid (by kernel_rfl)
  have hok := hD.ok
  obtain ⟨W, hW, s0⟩ := Sd.start hD hr x
  unfold zerR at hW
  have HW := Lib.hid hW
  have S0 := Lib.hid s0
  have OK := Lib.hid hok
  have HG := Lib.hid hG
  obtain ⟨y0, y1, y2, y3, y4⟩ := act_cells s0.b1
  have hx0 := hx.d0
  have hx1 := hx.d1
  have hk1 := hx.k1
  have hn0 := hx.n0
  have hn1 := hx.n1
  clear hW s0 hok hG hD hr hx
  go_enter Try.func11, Try.ntmps11
  go_upto_region 1 with fail
  rw [← HW.out]
  go_upto_block 0 with fail
  go_cut [8, 9] (fun g u wx => ∃ cc : Int, g = .int .i64 cc ∧ u = .int .i64 cc ∧ ∃ va vb, Sd G w wx b x (rcs (d.next x) va vb) (d.next x) (d.next x) va vb)
  case first =>
    have hfl := flush_any (S0.out.dk.bothG)
    have hcr := crash_any (S0.out.dk.bothG) x.keep hk1
    have hst := start_any (S0.out.dk.bothG)
    have hfu := fuse_any (S0.out.dk.bothG) x.n (by omega) x.keep hk1
    have HFL := Lib.hid hfl
    have HCR := Lib.hid hcr
    have HST := Lib.hid hst
    have HFU := Lib.hid hfu
    clear hfl hcr hst hfu
    by_cases d0 : x.d = 0
    · have hE : d.next x = d.flushS.1 := by rw [Dm.next, if_pos d0]
      have HE := Lib.hid hE
      have b0 : (x.d == 0) = true := by simpa using d0
      clear d0 hE
      go_wp2_with fail
      refine HFL.out.mono ?_
      rintro e w3 ⟨rfl, h3, k3⟩
      have S3 := Lib.hid (S0.out.disk h3 k3)
      skip
      clear h3 k3
      go_wp2_with (first | (refine wpList_load_mid rfl 33 (.tmp 4) rfl w.heap.size 0 rfl (rcs d vo vw).toList _ (Box.range' (L := (rcs d vo vw).toList) S3.out.b0) Try.underlying33 rfl infoRef ?_) | fail)
      refine ((fun r => rflush_any r OK.out) S3.out.rf).mono ?_
      rintro e w4 ⟨va, vb, rfl, h4, k4⟩
      have S4 := Lib.hid (S3.out.ref h4 k4)
      obtain ⟨hc1, hc2⟩ := h4.c1
      clear h4 k4
      go_wp2_with (first | (refine wpList_store_box rfl 33 (.tmp 4) (.tmp 39) rfl w.heap.size (rcs d.flushS.1 va vb).toList rfl rfl S4.out.b0 rfl infoRef (rcs_one _ _ _ hc1 hc2) ?_; intro w5 hb5 hk5) | fail)
      go_meet
      rw [HE.out]
      exact ⟨_, rfl, rfl, va, vb, (S4.out.put hb5 hk5)⟩
    by_cases d1 : x.d = 1
    · have hE : d.next x = (d.fuseS x.n x.keep).1 := by rw [Dm.next, if_neg d0, if_pos d1]
      have HE := Lib.hid hE
      have b0 : (x.d == 0) = false := by simpa using d0
      have b1 : (x.d == 1) = true := by simpa using d1
      clear d0 d1 hE
      go_wp2_with fail
      refine HFU.out.mono ?_
      rintro e w3 ⟨rfl, h3, k3⟩
      have S3 := Lib.hid (S0.out.disk h3 k3)
      obtain ⟨y0, y1, y2, y3, y4⟩ := act_cells S3.out.b1
      clear h3 k3
      go_wp2_with (first | (refine wpList_load_mid rfl 33 (.tmp 4) rfl w.heap.size 0 rfl (rcs d vo vw).toList _ (Box.range' (L := (rcs d vo vw).toList) S3.out.b0) Try.underlying33 rfl infoRef ?_) | fail)
      refine ((fun r => rfuse_any r x.n x.keep) S3.out.rf).mono ?_
      rintro e w4 ⟨va, vb, rfl, h4, k4⟩
      have S4 := Lib.hid (S3.out.ref h4 k4)
      obtain ⟨hc1, hc2⟩ := h4.c1
      clear h4 k4
      go_wp2_with (first | (refine wpList_store_box rfl 33 (.tmp 4) (.tmp 56) rfl w.heap.size (rcs (d.fuseS x.n x.keep).1 va vb).toList rfl rfl S4.out.b0 rfl infoRef (rcs_one _ _ _ hc1 hc2) ?_; intro w5 hb5 hk5) | fail)
      go_meet
      rw [HE.out]
      exact ⟨_, rfl, rfl, va, vb, (S4.out.put hb5 hk5)⟩
    by_cases d2 : x.d = 2
    · have hE : d.next x = (d.crashS x.keep).1 := by rw [Dm.next, if_neg d0, if_neg d1, if_pos d2]
      have HE := Lib.hid hE
      have b0 : (x.d == 0) = false := by simpa using d0
      have b1 : (x.d == 1) = false := by simpa using d1
      have b2 : (x.d == 2) = true := by simpa using d2
      clear d0 d1 d2 hE
      go_wp2_with fail
      refine HCR.out.mono ?_
      rintro e w3 ⟨rfl, h3, k3⟩
      have S3 := Lib.hid (S0.out.disk h3 k3)
      obtain ⟨y0, y1, y2, y3, y4⟩ := act_cells S3.out.b1
      clear h3 k3
      go_wp2_with (first | (refine wpList_load_mid rfl 33 (.tmp 4) rfl w.heap.size 0 rfl (rcs d vo vw).toList _ (Box.range' (L := (rcs d vo vw).toList) S3.out.b0) Try.underlying33 rfl infoRef ?_) | fail)
      refine ((fun r => rcrash_any r OK.out x.keep hk1) S3.out.rf).mono ?_
      rintro e w4 ⟨va, vb, rfl, h4, k4⟩
      have S4 := Lib.hid (S3.out.ref h4 k4)
      obtain ⟨hc1, hc2⟩ := h4.c1
      clear h4 k4
      go_wp2_with (first | (refine wpList_store_box rfl 33 (.tmp 4) (.tmp 69) rfl w.heap.size (rcs (d.crashS x.keep).1 va vb).toList rfl rfl S4.out.b0 rfl infoRef (rcs_one _ _ _ hc1 hc2) ?_; intro w5 hb5 hk5) | fail)
      go_meet
      rw [HE.out]
      exact ⟨_, rfl, rfl, va, vb, (S4.out.put hb5 hk5)⟩
    have c0 : (x.d == 0) = false := by simpa using d0
    have c1 : (x.d == 1) = false := by simpa using d1
    have c2 : (x.d == 2) = false := by simpa using d2
    by_cases d3 : x.d = 3
    · have hE : d.next x = d.startS := by rw [Dm.next, if_neg d0, if_neg d1, if_neg d2, if_pos d3]
      have HE := Lib.hid hE
      have b3 : (x.d == 3) = true := by simpa using d3
      clear d0 d1 d2 d3 hE
      go_wp2_with fail
      refine HST.out.mono ?_
      rintro e w3 ⟨rfl, h3, k3⟩
      have S3 := Lib.hid (S0.out.disk h3 k3)
      skip
      clear h3 k3
      go_wp2_with (first | (refine wpList_load_mid rfl 33 (.tmp 4) rfl w.heap.size 0 rfl (rcs d vo vw).toList _ (Box.range' (L := (rcs d vo vw).toList) S3.out.b0) Try.underlying33 rfl infoRef ?_) | fail)
      refine ((fun r => rstart_any r) S3.out.rf).mono ?_
      rintro e w4 ⟨va, vb, rfl, h4, k4⟩
      have S4 := Lib.hid (S3.out.ref h4 k4)
      obtain ⟨hc1, hc2⟩ := h4.c1
      clear h4 k4
      go_wp2_with (first | (refine wpList_store_box rfl 33 (.tmp 4) (.tmp 76) rfl w.heap.size (rcs d.startS va vb).toList rfl rfl S4.out.b0 rfl infoRef (rcs_one _ _ _ hc1 hc2) ?_; intro w5 hb5 hk5) | fail)
      go_meet
      rw [HE.out]
      exact ⟨_, rfl, rfl, va, vb, (S4.out.put hb5 hk5)⟩
    have c3 : (x.d == 3) = false := by simpa using d3
    by_cases d4 : x.d = 4
    · have hE : d.next x = d := by rw [Dm.next, if_neg d0, if_neg d1, if_neg d2, if_neg d3, if_pos d4]
      have HE := Lib.hid hE
      have b4 : (x.d == 4) = true := by simpa using d4
      clear d0 d1 d2 d3 d4 hE
      have hrr := read_any S0.out.dk x.n
      have hrf : ∀ v, Kp (fun _ => False) W v → _ := fun v kv => rread_any (S0.out.still kv).rf OK.out x.n
      generalize d.readS x.n = T at hrr hrf
      have HRF := Lib.hid hrf
      clear hrf
      go_wp2_with fail
      refine hrr.mono ?_
      rintro e w3 ⟨A, rfl, hrd, k3⟩
      have S3 := Lib.hid (S0.out.still k3)
      have K3 := Lib.hid k3
      obtain ⟨y0, y1, y2, y3, y4⟩ := act_cells S3.out.b1
      have HRD := Lib.hid hrd
      clear hrr k3 hrd
      go_wp2_with (first | (refine wpList_load_mid rfl 33 (.tmp 4) rfl w.heap.size 0 rfl (rcs d vo vw).toList _ (Box.range' (L := (rcs d vo vw).toList) S3.out.b0) Try.underlying33 rfl infoRef ?_) | fail)
      refine (HRF.out w3 K3.out).mono ?_
      rintro e w4 ⟨rfl, k4⟩
      have S4 := Lib.hid (S3.out.still k4)
      have ht := (HRD.out.kp k4 (fun _ _ h => h)).text (P := Try.prog) 47 9 5 T.1.length Try.underlying47 Try.underlying5 Try.underlying9
      clear k4
      go_wp2_with fail
      go_meet
      rw [HE.out]
      exact ⟨_, rfl, rfl, vo, vw, S4.out⟩
    have c4 : (x.d == 4) = false := by simpa using d4
    have hE : d.next x = (d.writeS x.n (dataL x.c x.short)).1 := by rw [Dm.next, if_neg d0, if_neg d1, if_neg d2, if_neg d3, if_neg d4]
    have HE := Lib.hid hE
    have hdl : (dataL x.c x.short).length ≤ maxLen := by
      cases x.short
      · rw [dataL_false, fullL_length]; decide
      · rw [dataL_true, List.length_replicate]; decide
    clear d0 d1 d2 d3 d4 hE
    go_upto_region 3 with fail
    refine wp_region_held_drew (S := fun v => v.cell? ⟨w.heap.size + 1, 0, none⟩ = some (.int .u8 x.d) ∧ v.cell? ⟨w.heap.size + 1, 1, none⟩ = some (.int .i64 x.n) ∧ v.cell? ⟨w.heap.size + 1, 2, none⟩ = some (.string ⟨x.keep.toArray⟩) ∧ v.cell? ⟨w.heap.size + 1, 3, none⟩ = some (.int .u8 x.c.toNat) ∧ v.cell? ⟨w.heap.size + 1, 4, none⟩ = some (.bool x.short)) (by kernel_rfl) (act_cells S0.out.b1) (fun hHeld => ?_)
    refine wpAnyH_take (i := 0) (oi := { dst := some 16, op := Op.move (Operand.tmp 0), type := 25, pos := "law.go:75", after := #[], guard := none }) (v := ?_) rfl (by kernel_rfl) (by kernel_rfl) (by kernel_rfl) (fun _ _ _ h => h) (Or.inl ⟨by rfl, ?_⟩) (by assumption) ?_
    rotate_left
    · intro v hSw
      try dsimp only at hSw
      go_simp
      with_reducible rfl
    try simp only [Act.put, List.setIfInBounds_toArray, List.set_cons_zero, List.set_cons_succ]
    refine wpAnyH_take (i := 1) (oi := { dst := some 17, op := Op.fieldAddr 39 (Operand.tmp 5) 1, type := 0, pos := "law.go:75", after := #[], guard := none }) (v := ?_) rfl (by kernel_rfl) (by kernel_rfl) (by kernel_rfl) (fun _ _ _ h => h) (Or.inl ⟨by rfl, ?_⟩) (by assumption) ?_
    rotate_left
    · intro v hSw
      try dsimp only at hSw
      go_simp
      with_reducible rfl
    try simp only [Act.put, List.setIfInBounds_toArray, List.set_cons_zero, List.set_cons_succ]
    refine wpAnyH_take (i := 2) (oi := { dst := some 18, op := Op.load 3 (Operand.tmp 17), type := 3, pos := "law.go:75", after := #[{ on := 1, ground := Ground.data }], guard := none }) (v := ?_) rfl (by kernel_rfl) (by kernel_rfl) (by kernel_rfl) (fun _ _ _ h => h) (Or.inl ⟨by rfl, ?_⟩) (by assumption) ?_
    rotate_left
    · intro v hSw
      try dsimp only at hSw
      go_simp
      with_reducible rfl
    try simp only [Act.put, List.setIfInBounds_toArray, List.set_cons_zero, List.set_cons_succ]
    refine wpAnyH_take (i := 3) (oi := { dst := some 19, op := Op.load 39 (Operand.tmp 5), type := 39, pos := "law.go:75", after := #[], guard := none }) (v := ?_) rfl (by kernel_rfl) (by kernel_rfl) (by kernel_rfl) (fun _ _ _ h => h) (Or.inl ⟨by rfl, ?_⟩) (by assumption) ?_
    rotate_left
    · intro v hSw
      try dsimp only at hSw
      go_simp
      with_reducible rfl
    try simp only [Act.put, List.setIfInBounds_toArray, List.set_cons_zero, List.set_cons_succ]
    refine wpAnyH_ready (rs := [4]) (by kernel_rfl) (by simp) ?_
    refine AllReadyH.cons (o := { dst := some 20, op := Op.call { callee := Callee.value (Operand.func 26), args := #[Operand.tmp 19], argTypes := #[39] }, type := 47, pos := "law.go:75", after := #[{ on := 3, ground := Ground.data }], guard := none }) rfl (fun K hK => ?_) AllReadyH.nil
    go_simp
    refine (data_any _ _ _ x.c x.short _).mono ?_
    rintro e w3 ⟨A, nn, rfl, hnb, k3⟩
    have S3 := Lib.hid (S0.out.drew.still k3)
    have NB := Lib.hid hnb
    clear hnb k3
    go_wp2_with fail
    refine hK.out _ _ (act_cells S3.out.b1) (fun hHeld1 => ?_)
    clear hK K
    try simp only [Act.put, List.setIfInBounds_toArray, List.set_cons_zero, List.set_cons_succ]
    refine wpAnyH_ready (rs := [5]) (by kernel_rfl) (by simp) ?_
    refine AllReadyH.cons (o := { dst := some 21, op := Op.call { callee := Callee.value (Operand.func 18), args := #[Operand.tmp 16, Operand.tmp 18, Operand.tmp 20], argTypes := #[25, 3, 47] }, type := 26, pos := "law.go:75", after := #[{ on := 0, ground := Ground.data }, { on := 2, ground := Ground.data }, { on := 4, ground := Ground.data }, { on := 4, ground := Ground.chain }], guard := none }) rfl (fun K hK => ?_) AllReadyH.nil
    go_simp
    refine (write_any (newG HG.out S3.out.kp.size) S3.out.dk.bothG x.n A (dataL x.c x.short) nn NB.out.rd NB.out.off hw).mono ?_
    rintro e w4 ⟨rfl, h4, k4⟩
    have S4 := Lib.hid (S3.out.disk h4 k4)
    clear h4 k4
    go_wp2_with fail
    refine hK.out _ _ (act_cells S4.out.b1) (fun hHeld2 => ?_)
    clear hK K
    try simp only [Act.put, List.setIfInBounds_toArray, List.set_cons_zero, List.set_cons_succ]
    refine wpAnyH_take (i := 6) (oi := { dst := some 8, op := Op.assign (Operand.tmp 21), type := 26, pos := "law.go:75", after := #[{ on := 5, ground := Ground.data }, { on := 5, ground := Ground.chain }, { on := 0, ground := Ground.phase }, { on := 1, ground := Ground.phase }, { on := 2, ground := Ground.phase }, { on := 3, ground := Ground.phase }, { on := 4, ground := Ground.phase }, { on := 5, ground := Ground.phase }], guard := none }) (v := ?_) rfl (by kernel_rfl) (by kernel_rfl) (by kernel_rfl) (fun _ _ _ h => h) (Or.inl ⟨by rfl, ?_⟩) (by assumption) ?_
    rotate_left
    · intro v hSw
      try dsimp only at hSw
      go_simp
      with_reducible rfl
    try simp only [Act.put, List.setIfInBounds_toArray, List.set_cons_zero, List.set_cons_succ]
    refine wpAnyH_done (by kernel_rfl) ?_ _
    go_upto_region 4 with fail
    refine wp_region_held_drew (S := fun v => v.cell? ⟨w.heap.size + 1, 0, none⟩ = some (.int .u8 x.d) ∧ v.cell? ⟨w.heap.size + 1, 1, none⟩ = some (.int .i64 x.n) ∧ v.cell? ⟨w.heap.size + 1, 2, none⟩ = some (.string ⟨x.keep.toArray⟩) ∧ v.cell? ⟨w.heap.size + 1, 3, none⟩ = some (.int .u8 x.c.toNat) ∧ v.cell? ⟨w.heap.size + 1, 4, none⟩ = some (.bool x.short)) (by kernel_rfl) (act_cells S4.out.b1) (fun hHeld => ?_)
    refine wpAnyH_take (i := 1) (oi := { dst := some 24, op := Op.fieldAddr 39 (Operand.tmp 5) 1, type := 0, pos := "law.go:76", after := #[], guard := none }) (v := ?_) rfl (by kernel_rfl) (by kernel_rfl) (by kernel_rfl) (fun _ _ _ h => h) (Or.inl ⟨by rfl, ?_⟩) (by assumption) ?_
    rotate_left
    · intro v hSw
      try dsimp only at hSw
      go_simp
      with_reducible rfl
    try simp only [Act.put, List.setIfInBounds_toArray, List.set_cons_zero, List.set_cons_succ]
    refine wpAnyH_take (i := 2) (oi := { dst := some 25, op := Op.load 3 (Operand.tmp 24), type := 3, pos := "law.go:76", after := #[{ on := 1, ground := Ground.data }], guard := none }) (v := ?_) rfl (by kernel_rfl) (by kernel_rfl) (by kernel_rfl) (fun _ _ _ h => h) (Or.inl ⟨by rfl, ?_⟩) (by assumption) ?_
    rotate_left
    · intro v hSw
      try dsimp only at hSw
      go_simp
      with_reducible rfl
    try simp only [Act.put, List.setIfInBounds_toArray, List.set_cons_zero, List.set_cons_succ]
    refine wpAnyH_take (i := 3) (oi := { dst := some 26, op := Op.load 39 (Operand.tmp 5), type := 39, pos := "law.go:76", after := #[], guard := none }) (v := ?_) rfl (by kernel_rfl) (by kernel_rfl) (by kernel_rfl) (fun _ _ _ h => h) (Or.inl ⟨by rfl, ?_⟩) (by assumption) ?_
    rotate_left
    · intro v hSw
      try dsimp only at hSw
      go_simp
      with_reducible rfl
    try simp only [Act.put, List.setIfInBounds_toArray, List.set_cons_zero, List.set_cons_succ]
    refine wpAnyH_ready (rs := [0, 4]) (by kernel_rfl) (by simp) ?_
    refine AllReadyH.cons (o := { dst := some 23, op := Op.load 33 (Operand.tmp 4), type := 33, pos := "law.go:76", after := #[], guard := none }) rfl (fun K hK => ?_) (AllReadyH.cons (o := { dst := some 27, op := Op.call { callee := Callee.value (Operand.func 26), args := #[Operand.tmp 26], argTypes := #[39] }, type := 47, pos := "law.go:76", after := #[{ on := 3, ground := Ground.data }], guard := none }) rfl (fun K hK => ?_) AllReadyH.nil)
    · rw [if_pos (by rfl)]
      refine wp_load_mid 33 (.tmp 4) rfl w.heap.size 0 rfl (rcs d vo vw).toList _ (Box.range' (L := (rcs d vo vw).toList) S4.out.drew.b0) Try.underlying33 rfl infoRef ?_
      refine hK.out _ _ (act_cells S4.out.b1) (fun hHeld3 => ?_)
      clear hK K
      try simp only [Act.put, List.setIfInBounds_toArray, List.set_cons_zero, List.set_cons_succ]
      refine wpAnyH_ready (rs := [4]) (by kernel_rfl) (by simp) ?_
      refine AllReadyH.cons (o := { dst := some 27, op := Op.call { callee := Callee.value (Operand.func 26), args := #[Operand.tmp 26], argTypes := #[39] }, type := 47, pos := "law.go:76", after := #[{ on := 3, ground := Ground.data }], guard := none }) rfl (fun K hK => ?_) AllReadyH.nil
      go_simp
      refine (data_any _ _ _ x.c x.short _).mono ?_
      rintro e w5 ⟨A2, n2, rfl, hnb, k5⟩
      have S5 := Lib.hid (S4.out.drew.still k5)
      have ht := hnb.rd.text (P := Try.prog) 47 9 5 n2 Try.underlying47 Try.underlying5 Try.underlying9
      clear hnb k5
      go_wp2_with fail
      refine hK.out _ _ (act_cells S5.out.b1) (fun hHeld4 => ?_)
      clear hK K
      try simp only [Act.put, List.setIfInBounds_toArray, List.set_cons_zero, List.set_cons_succ]
      refine wpAnyH_ready (rs := [5]) (by kernel_rfl) (by simp) ?_
      refine AllReadyH.cons (o := { dst := some 28, op := Op.convert 47 9 (Operand.tmp 27), type := 9, pos := "law.go:76", after := #[{ on := 4, ground := Ground.data }], guard := none }) rfl (fun K hK => ?_) AllReadyH.nil
      go_simp
      refine hK.out _ _ (act_cells S5.out.b1) (fun hHeld5 => ?_)
      clear hK K
      try simp only [Act.put, List.setIfInBounds_toArray, List.set_cons_zero, List.set_cons_succ]
      refine wpAnyH_ready (rs := [6]) (by kernel_rfl) (by simp) ?_
      refine AllReadyH.cons (o := { dst := some 29, op := Op.call { callee := Callee.value (Operand.func 34), args := #[Operand.tmp 23, Operand.tmp 25, Operand.tmp 28], argTypes := #[33, 3, 9] }, type := 43, pos := "law.go:76", after := #[{ on := 0, ground := Ground.data }, { on := 2, ground := Ground.data }, { on := 5, ground := Ground.data }, { on := 4, ground := Ground.chain }], guard := none }) rfl (fun K hK => ?_) AllReadyH.nil
      go_simp
      clear ht
      refine (rwrite_any S5.out.rf OK.out x.n (dataL x.c x.short) hdl hw).mono ?_
      rintro e w6 ⟨va, vb, rfl, h6, k6⟩
      have S6 := Lib.hid (S5.out.ref h6 k6)
      obtain ⟨hc1, hc2⟩ := h6.c1
      clear h6 k6
      go_wp2_with fail
      refine hK.out _ _ (act_cells S6.out.b1) (fun hHeld6 => ?_)
      clear hK K
      try simp only [Act.put, List.setIfInBounds_toArray, List.set_cons_zero, List.set_cons_succ]
      refine wpAnyH_take (i := 7) (oi := { dst := some 22, op := Op.move (Operand.tmp 29), type := 43, pos := "law.go:76", after := #[{ on := 6, ground := Ground.data }], guard := none }) (v := ?_) rfl (by kernel_rfl) (by kernel_rfl) (by kernel_rfl) (fun _ _ _ h => h) (Or.inl ⟨by rfl, ?_⟩) (by assumption) ?_
      rotate_left
      · intro v hSw
        try dsimp only at hSw
        go_simp
        with_reducible rfl
      try simp only [Act.put, List.setIfInBounds_toArray, List.set_cons_zero, List.set_cons_succ]
      refine wpAnyH_take (i := 8) (oi := { dst := some 30, op := Op.extract (Operand.tmp 22) 0, type := 33, pos := "law.go:76", after := #[{ on := 7, ground := Ground.data }], guard := none }) (v := ?_) rfl (by kernel_rfl) (by kernel_rfl) (by kernel_rfl) (fun _ _ _ h => h) (Or.inl ⟨by rfl, ?_⟩) (by assumption) ?_
      rotate_left
      · intro v hSw
        try dsimp only at hSw
        go_simp
        with_reducible rfl
      try simp only [Act.put, List.setIfInBounds_toArray, List.set_cons_zero, List.set_cons_succ]
      refine wpAnyH_take (i := 9) (oi := { dst := some 31, op := Op.extract (Operand.tmp 22) 1, type := 26, pos := "law.go:76", after := #[{ on := 7, ground := Ground.data }, { on := 10, ground := Ground.gcOnly Departure.lateStores }], guard := none }) (v := ?_) rfl (by kernel_rfl) (by kernel_rfl) (by kernel_rfl) (fun _ _ _ h => h) (Or.inl ⟨by rfl, ?_⟩) (by assumption) ?_
      rotate_left
      · intro v hSw
        try dsimp only at hSw
        go_simp
        with_reducible rfl
      try simp only [Act.put, List.setIfInBounds_toArray, List.set_cons_zero, List.set_cons_succ]
      refine wpAnyH_ready (rs := [10]) (by kernel_rfl) (by simp) ?_
      refine AllReadyH.cons (o := { dst := none, op := Op.store 33 (Operand.tmp 4) (Operand.tmp 30), type := 0, pos := "law.go:76", after := #[{ on := 8, ground := Ground.data }, { on := 6, ground := Ground.chain }, { on := 0, ground := Ground.phase }, { on := 1, ground := Ground.phase }, { on := 2, ground := Ground.phase }, { on := 3, ground := Ground.phase }, { on := 4, ground := Ground.phase }, { on := 5, ground := Ground.phase }, { on := 6, ground := Ground.phase }, { on := 7, ground := Ground.phase }, { on := 8, ground := Ground.phase }, { on := 9, ground := Ground.textOnly Departure.lateStores }], guard := none }) rfl (fun K hK => ?_) AllReadyH.nil
      rw [if_pos (by rfl)]
      refine wp_store_box 33 (.tmp 4) (.tmp 30) rfl w.heap.size (rcs (d.writeS x.n (dataL x.c x.short)).1 va vb).toList rfl rfl S6.out.b0 rfl infoRef (rcs_one _ _ _ hc1 hc2) ?_
      intro w7 hb7 hk7
      have S7 := Lib.hid (S6.out.put hb7 hk7)
      clear hb7 hk7
      refine hK.out _ _ (act_cells S7.out.b1) (fun hHeld7 => ?_)
      clear hK K
      try simp only [Act.put, List.setIfInBounds_toArray, List.set_cons_zero, List.set_cons_succ]
      refine wpAnyH_take (i := 11) (oi := { dst := some 9, op := Op.assign (Operand.tmp 31), type := 26, pos := "law.go:76", after := #[{ on := 9, ground := Ground.data }, { on := 10, ground := Ground.chain }, { on := 0, ground := Ground.phase }, { on := 1, ground := Ground.phase }, { on := 2, ground := Ground.phase }, { on := 3, ground := Ground.phase }, { on := 4, ground := Ground.phase }, { on := 5, ground := Ground.phase }, { on := 6, ground := Ground.phase }, { on := 7, ground := Ground.phase }, { on := 8, ground := Ground.phase }, { on := 9, ground := Ground.phase }, { on := 10, ground := Ground.phase }], guard := none }) (v := ?_) rfl (by kernel_rfl) (by kernel_rfl) (by kernel_rfl) (fun _ _ _ h => h) (Or.inl ⟨by rfl, ?_⟩) (by assumption) ?_
      rotate_left
      · intro v hSw
        try dsimp only at hSw
        go_simp
        with_reducible rfl
      try simp only [Act.put, List.setIfInBounds_toArray, List.set_cons_zero, List.set_cons_succ]
      refine wpAnyH_done (by kernel_rfl) ?_ _
      go_wp2_with fail
      go_meet
      rw [HE.out]
      exact ⟨_, rfl, rfl, va, vb, S7.out⟩
    · go_simp
      refine (data_any _ _ _ x.c x.short _).mono ?_
      rintro e w5 ⟨A2, n2, rfl, hnb, k5⟩
      have S5 := Lib.hid (S4.out.drew.still k5)
      have ht := hnb.rd.text (P := Try.prog) 47 9 5 n2 Try.underlying47 Try.underlying5 Try.underlying9
      clear hnb k5
      go_wp2_with fail
      refine hK.out _ _ (act_cells S5.out.b1) (fun hHeld8 => ?_)
      clear hK K
      try simp only [Act.put, List.setIfInBounds_toArray, List.set_cons_zero, List.set_cons_succ]
      refine wpAnyH_ready (rs := [0, 5]) (by kernel_rfl) (by simp) ?_
      refine AllReadyH.cons (o := { dst := some 23, op := Op.load 33 (Operand.tmp 4), type := 33, pos := "law.go:76", after := #[], guard := none }) rfl (fun K hK => ?_) (AllReadyH.cons (o := { dst := some 28, op := Op.convert 47 9 (Operand.tmp 27), type := 9, pos := "law.go:76", after := #[{ on := 4, ground := Ground.data }], guard := none }) rfl (fun K hK => ?_) AllReadyH.nil)
      · rw [if_pos (by rfl)]
        refine wp_load_mid 33 (.tmp 4) rfl w.heap.size 0 rfl (rcs d vo vw).toList _ (Box.range' (L := (rcs d vo vw).toList) S5.out.b0) Try.underlying33 rfl infoRef ?_
        refine hK.out _ _ (act_cells S5.out.b1) (fun hHeld9 => ?_)
        clear hK K
        try simp only [Act.put, List.setIfInBounds_toArray, List.set_cons_zero, List.set_cons_succ]
        refine wpAnyH_ready (rs := [5]) (by kernel_rfl) (by simp) ?_
        refine AllReadyH.cons (o := { dst := some 28, op := Op.convert 47 9 (Operand.tmp 27), type := 9, pos := "law.go:76", after := #[{ on := 4, ground := Ground.data }], guard := none }) rfl (fun K hK => ?_) AllReadyH.nil
        go_simp
        refine hK.out _ _ (act_cells S5.out.b1) (fun hHeld10 => ?_)
        clear hK K
        try simp only [Act.put, List.setIfInBounds_toArray, List.set_cons_zero, List.set_cons_succ]
        refine wpAnyH_ready (rs := [6]) (by kernel_rfl) (by simp) ?_
        refine AllReadyH.cons (o := { dst := some 29, op := Op.call { callee := Callee.value (Operand.func 34), args := #[Operand.tmp 23, Operand.tmp 25, Operand.tmp 28], argTypes := #[33, 3, 9] }, type := 43, pos := "law.go:76", after := #[{ on := 0, ground := Ground.data }, { on := 2, ground := Ground.data }, { on := 5, ground := Ground.data }, { on := 4, ground := Ground.chain }], guard := none }) rfl (fun K hK => ?_) AllReadyH.nil
        go_simp
        clear ht
        refine (rwrite_any S5.out.rf OK.out x.n (dataL x.c x.short) hdl hw).mono ?_
        rintro e w6 ⟨va, vb, rfl, h6, k6⟩
        have S6 := Lib.hid (S5.out.ref h6 k6)
        obtain ⟨hc1, hc2⟩ := h6.c1
        clear h6 k6
        go_wp2_with fail
        refine hK.out _ _ (act_cells S6.out.b1) (fun hHeld11 => ?_)
        clear hK K
        try simp only [Act.put, List.setIfInBounds_toArray, List.set_cons_zero, List.set_cons_succ]
        refine wpAnyH_take (i := 7) (oi := { dst := some 22, op := Op.move (Operand.tmp 29), type := 43, pos := "law.go:76", after := #[{ on := 6, ground := Ground.data }], guard := none }) (v := ?_) rfl (by kernel_rfl) (by kernel_rfl) (by kernel_rfl) (fun _ _ _ h => h) (Or.inl ⟨by rfl, ?_⟩) (by assumption) ?_
        rotate_left
        · intro v hSw
          try dsimp only at hSw
          go_simp
          with_reducible rfl
        try simp only [Act.put, List.setIfInBounds_toArray, List.set_cons_zero, List.set_cons_succ]
        refine wpAnyH_take (i := 8) (oi := { dst := some 30, op := Op.extract (Operand.tmp 22) 0, type := 33, pos := "law.go:76", after := #[{ on := 7, ground := Ground.data }], guard := none }) (v := ?_) rfl (by kernel_rfl) (by kernel_rfl) (by kernel_rfl) (fun _ _ _ h => h) (Or.inl ⟨by rfl, ?_⟩) (by assumption) ?_
        rotate_left
        · intro v hSw
          try dsimp only at hSw
          go_simp
          with_reducible rfl
        try simp only [Act.put, List.setIfInBounds_toArray, List.set_cons_zero, List.set_cons_succ]
        refine wpAnyH_take (i := 9) (oi := { dst := some 31, op := Op.extract (Operand.tmp 22) 1, type := 26, pos := "law.go:76", after := #[{ on := 7, ground := Ground.data }, { on := 10, ground := Ground.gcOnly Departure.lateStores }], guard := none }) (v := ?_) rfl (by kernel_rfl) (by kernel_rfl) (by kernel_rfl) (fun _ _ _ h => h) (Or.inl ⟨by rfl, ?_⟩) (by assumption) ?_
        rotate_left
        · intro v hSw
          try dsimp only at hSw
          go_simp
          with_reducible rfl
        try simp only [Act.put, List.setIfInBounds_toArray, List.set_cons_zero, List.set_cons_succ]
        refine wpAnyH_ready (rs := [10]) (by kernel_rfl) (by simp) ?_
        refine AllReadyH.cons (o := { dst := none, op := Op.store 33 (Operand.tmp 4) (Operand.tmp 30), type := 0, pos := "law.go:76", after := #[{ on := 8, ground := Ground.data }, { on := 6, ground := Ground.chain }, { on := 0, ground := Ground.phase }, { on := 1, ground := Ground.phase }, { on := 2, ground := Ground.phase }, { on := 3, ground := Ground.phase }, { on := 4, ground := Ground.phase }, { on := 5, ground := Ground.phase }, { on := 6, ground := Ground.phase }, { on := 7, ground := Ground.phase }, { on := 8, ground := Ground.phase }, { on := 9, ground := Ground.textOnly Departure.lateStores }], guard := none }) rfl (fun K hK => ?_) AllReadyH.nil
        rw [if_pos (by rfl)]
        refine wp_store_box 33 (.tmp 4) (.tmp 30) rfl w.heap.size (rcs (d.writeS x.n (dataL x.c x.short)).1 va vb).toList rfl rfl S6.out.b0 rfl infoRef (rcs_one _ _ _ hc1 hc2) ?_
        intro w7 hb7 hk7
        have S7 := Lib.hid (S6.out.put hb7 hk7)
        clear hb7 hk7
        refine hK.out _ _ (act_cells S7.out.b1) (fun hHeld12 => ?_)
        clear hK K
        try simp only [Act.put, List.setIfInBounds_toArray, List.set_cons_zero, List.set_cons_succ]
        refine wpAnyH_take (i := 11) (oi := { dst := some 9, op := Op.assign (Operand.tmp 31), type := 26, pos := "law.go:76", after := #[{ on := 9, ground := Ground.data }, { on := 10, ground := Ground.chain }, { on := 0, ground := Ground.phase }, { on := 1, ground := Ground.phase }, { on := 2, ground := Ground.phase }, { on := 3, ground := Ground.phase }, { on := 4, ground := Ground.phase }, { on := 5, ground := Ground.phase }, { on := 6, ground := Ground.phase }, { on := 7, ground := Ground.phase }, { on := 8, ground := Ground.phase }, { on := 9, ground := Ground.phase }, { on := 10, ground := Ground.phase }], guard := none }) (v := ?_) rfl (by kernel_rfl) (by kernel_rfl) (by kernel_rfl) (fun _ _ _ h => h) (Or.inl ⟨by rfl, ?_⟩) (by assumption) ?_
        rotate_left
        · intro v hSw
          try dsimp only at hSw
          go_simp
          with_reducible rfl
        try simp only [Act.put, List.setIfInBounds_toArray, List.set_cons_zero, List.set_cons_succ]
        refine wpAnyH_done (by kernel_rfl) ?_ _
        go_wp2_with fail
        go_meet
        rw [HE.out]
        exact ⟨_, rfl, rfl, va, vb, S7.out⟩
      · go_simp
        refine hK.out _ _ (act_cells S5.out.b1) (fun hHeld13 => ?_)
        clear hK K
        try simp only [Act.put, List.setIfInBounds_toArray, List.set_cons_zero, List.set_cons_succ]
        refine wpAnyH_ready (rs := [0]) (by kernel_rfl) (by simp) ?_
        refine AllReadyH.cons (o := { dst := some 23, op := Op.load 33 (Operand.tmp 4), type := 33, pos := "law.go:76", after := #[], guard := none }) rfl (fun K hK => ?_) AllReadyH.nil
        rw [if_pos (by rfl)]
        refine wp_load_mid 33 (.tmp 4) rfl w.heap.size 0 rfl (rcs d vo vw).toList _ (Box.range' (L := (rcs d vo vw).toList) S5.out.b0) Try.underlying33 rfl infoRef ?_
        refine hK.out _ _ (act_cells S5.out.b1) (fun hHeld14 => ?_)
        clear hK K
        try simp only [Act.put, List.setIfInBounds_toArray, List.set_cons_zero, List.set_cons_succ]
        refine wpAnyH_ready (rs := [6]) (by kernel_rfl) (by simp) ?_
        refine AllReadyH.cons (o := { dst := some 29, op := Op.call { callee := Callee.value (Operand.func 34), args := #[Operand.tmp 23, Operand.tmp 25, Operand.tmp 28], argTypes := #[33, 3, 9] }, type := 43, pos := "law.go:76", after := #[{ on := 0, ground := Ground.data }, { on := 2, ground := Ground.data }, { on := 5, ground := Ground.data }, { on := 4, ground := Ground.chain }], guard := none }) rfl (fun K hK => ?_) AllReadyH.nil
        go_simp
        clear ht
        refine (rwrite_any S5.out.rf OK.out x.n (dataL x.c x.short) hdl hw).mono ?_
        rintro e w6 ⟨va, vb, rfl, h6, k6⟩
        have S6 := Lib.hid (S5.out.ref h6 k6)
        obtain ⟨hc1, hc2⟩ := h6.c1
        clear h6 k6
        go_wp2_with fail
        refine hK.out _ _ (act_cells S6.out.b1) (fun hHeld15 => ?_)
        clear hK K
        try simp only [Act.put, List.setIfInBounds_toArray, List.set_cons_zero, List.set_cons_succ]
        refine wpAnyH_take (i := 7) (oi := { dst := some 22, op := Op.move (Operand.tmp 29), type := 43, pos := "law.go:76", after := #[{ on := 6, ground := Ground.data }], guard := none }) (v := ?_) rfl (by kernel_rfl) (by kernel_rfl) (by kernel_rfl) (fun _ _ _ h => h) (Or.inl ⟨by rfl, ?_⟩) (by assumption) ?_
        rotate_left
        · intro v hSw
          try dsimp only at hSw
          go_simp
          with_reducible rfl
        try simp only [Act.put, List.setIfInBounds_toArray, List.set_cons_zero, List.set_cons_succ]
        refine wpAnyH_take (i := 8) (oi := { dst := some 30, op := Op.extract (Operand.tmp 22) 0, type := 33, pos := "law.go:76", after := #[{ on := 7, ground := Ground.data }], guard := none }) (v := ?_) rfl (by kernel_rfl) (by kernel_rfl) (by kernel_rfl) (fun _ _ _ h => h) (Or.inl ⟨by rfl, ?_⟩) (by assumption) ?_
        rotate_left
        · intro v hSw
          try dsimp only at hSw
          go_simp
          with_reducible rfl
        try simp only [Act.put, List.setIfInBounds_toArray, List.set_cons_zero, List.set_cons_succ]
        refine wpAnyH_take (i := 9) (oi := { dst := some 31, op := Op.extract (Operand.tmp 22) 1, type := 26, pos := "law.go:76", after := #[{ on := 7, ground := Ground.data }, { on := 10, ground := Ground.gcOnly Departure.lateStores }], guard := none }) (v := ?_) rfl (by kernel_rfl) (by kernel_rfl) (by kernel_rfl) (fun _ _ _ h => h) (Or.inl ⟨by rfl, ?_⟩) (by assumption) ?_
        rotate_left
        · intro v hSw
          try dsimp only at hSw
          go_simp
          with_reducible rfl
        try simp only [Act.put, List.setIfInBounds_toArray, List.set_cons_zero, List.set_cons_succ]
        refine wpAnyH_ready (rs := [10]) (by kernel_rfl) (by simp) ?_
        refine AllReadyH.cons (o := { dst := none, op := Op.store 33 (Operand.tmp 4) (Operand.tmp 30), type := 0, pos := "law.go:76", after := #[{ on := 8, ground := Ground.data }, { on := 6, ground := Ground.chain }, { on := 0, ground := Ground.phase }, { on := 1, ground := Ground.phase }, { on := 2, ground := Ground.phase }, { on := 3, ground := Ground.phase }, { on := 4, ground := Ground.phase }, { on := 5, ground := Ground.phase }, { on := 6, ground := Ground.phase }, { on := 7, ground := Ground.phase }, { on := 8, ground := Ground.phase }, { on := 9, ground := Ground.textOnly Departure.lateStores }], guard := none }) rfl (fun K hK => ?_) AllReadyH.nil
        rw [if_pos (by rfl)]
        refine wp_store_box 33 (.tmp 4) (.tmp 30) rfl w.heap.size (rcs (d.writeS x.n (dataL x.c x.short)).1 va vb).toList rfl rfl S6.out.b0 rfl infoRef (rcs_one _ _ _ hc1 hc2) ?_
        intro w7 hb7 hk7
        have S7 := Lib.hid (S6.out.put hb7 hk7)
        clear hb7 hk7
        refine hK.out _ _ (act_cells S7.out.b1) (fun hHeld16 => ?_)
        clear hK K
        try simp only [Act.put, List.setIfInBounds_toArray, List.set_cons_zero, List.set_cons_succ]
        refine wpAnyH_take (i := 11) (oi := { dst := some 9, op := Op.assign (Operand.tmp 31), type := 26, pos := "law.go:76", after := #[{ on := 9, ground := Ground.data }, { on := 10, ground := Ground.chain }, { on := 0, ground := Ground.phase }, { on := 1, ground := Ground.phase }, { on := 2, ground := Ground.phase }, { on := 3, ground := Ground.phase }, { on := 4, ground := Ground.phase }, { on := 5, ground := Ground.phase }, { on := 6, ground := Ground.phase }, { on := 7, ground := Ground.phase }, { on := 8, ground := Ground.phase }, { on := 9, ground := Ground.phase }, { on := 10, ground := Ground.phase }], guard := none }) (v := ?_) rfl (by kernel_rfl) (by kernel_rfl) (by kernel_rfl) (fun _ _ _ h => h) (Or.inl ⟨by rfl, ?_⟩) (by assumption) ?_
        rotate_left
        · intro v hSw
          try dsimp only at hSw
          go_simp
          with_reducible rfl
        try simp only [Act.put, List.setIfInBounds_toArray, List.set_cons_zero, List.set_cons_succ]
        refine wpAnyH_done (by kernel_rfl) ?_ _
        go_wp2_with fail
        go_meet
        rw [HE.out]
        exact ⟨_, rfl, rfl, va, vb, S7.out⟩
  case rest =>
    obtain ⟨cc, rfl, rfl, va, vb, s1⟩ := hcut
    generalize hDx : d.next x = D at *
    obtain ⟨Av, cv, hvb⟩ : ∃ Av cv, vb = .slice Av D.wait.length cv := by
      obtain ⟨_, A, cap, hv, _⟩ := s1.rf.wt
      exact ⟨A, cap, hv⟩
    subst hvb
    have s2 := s1.drew
    obtain ⟨hc1, hc2⟩ := s1.rf.c1
    have S2 := Lib.hid s2
    have HDX := Lib.hid hDx
    clear s1 s2 S0 HW y0 y1 y2 y3 y4 hDx
    go_upto_region 24 with fail
    refine wp_region_held_drew (S := fun v => v.cell? ⟨w.heap.size, 0, none⟩ = some (va) ∧ v.cell? ⟨w.heap.size, 1, none⟩ = some (.slice Av D.wait.length cv) ∧ v.cell? ⟨w.heap.size, 2, none⟩ = some (.bool (!D.power)) ∧ v.cell? ⟨w.heap.size, 3, none⟩ = some (.int .i64 (leftZ D)) ∧ v.cell? ⟨w.heap.size, 4, none⟩ = some (.string ⟨D.keep.toArray⟩) ∧ v.cell? ⟨w.heap.size, 5, none⟩ = some (.int .u64 D.acts)) (by kernel_rfl) (rcs_cells S2.out.b0) (fun hHeld => ?_)
    refine wpAnyH_take (i := 0) (oi := { dst := some 100, op := Op.load 33 (Operand.tmp 4), type := 33, pos := "law.go:78", after := #[], guard := none }) (v := ?_) rfl (by kernel_rfl) (by kernel_rfl) (by kernel_rfl) (fun _ _ _ h => h) (Or.inl ⟨by rfl, ?_⟩) (by assumption) ?_
    rotate_left
    · intro v hSw
      try dsimp only at hSw
      go_simp
      with_reducible rfl
    try simp only [Act.put, List.setIfInBounds_toArray, List.set_cons_zero, List.set_cons_succ]
    refine wpAnyH_take (i := 1) (oi := { dst := some 101, op := Op.move (Operand.tmp 8), type := 26, pos := "law.go:78", after := #[], guard := none }) (v := ?_) rfl (by kernel_rfl) (by kernel_rfl) (by kernel_rfl) (fun _ _ _ h => h) (Or.inl ⟨by rfl, ?_⟩) (by assumption) ?_
    rotate_left
    · intro v hSw
      try dsimp only at hSw
      go_simp
      with_reducible rfl
    try simp only [Act.put, List.setIfInBounds_toArray, List.set_cons_zero, List.set_cons_succ]
    refine wpAnyH_take (i := 2) (oi := { dst := some 102, op := Op.move (Operand.tmp 9), type := 26, pos := "law.go:78", after := #[], guard := none }) (v := ?_) rfl (by kernel_rfl) (by kernel_rfl) (by kernel_rfl) (fun _ _ _ h => h) (Or.inl ⟨by rfl, ?_⟩) (by assumption) ?_
    rotate_left
    · intro v hSw
      try dsimp only at hSw
      go_simp
      with_reducible rfl
    try simp only [Act.put, List.setIfInBounds_toArray, List.set_cons_zero, List.set_cons_succ]
    refine wpAnyH_take (i := 3) (oi := { dst := some 103, op := Op.binOp BinOp.eql 26 (Operand.tmp 101) (Operand.tmp 102) 26, type := 4, pos := "law.go:78", after := #[{ on := 1, ground := Ground.data }, { on := 2, ground := Ground.data }], guard := none }) (v := ?_) rfl (by kernel_rfl) (by kernel_rfl) (by kernel_rfl) (fun _ _ _ h => h) (Or.inl ⟨by rfl, ?_⟩) (by assumption) ?_
    rotate_left
    · intro v hSw
      try dsimp only at hSw
      go_simp
      with_reducible rfl
    try simp only [Act.put, List.setIfInBounds_toArray, List.set_cons_zero, List.set_cons_succ]
    refine wpAnyH_take (i := 4) (oi := { dst := some 104, op := Op.move (Operand.tmp 103), type := 4, pos := "law.go:78", after := #[{ on := 3, ground := Ground.data }], guard := none }) (v := ?_) rfl (by kernel_rfl) (by kernel_rfl) (by kernel_rfl) (fun _ _ _ h => h) (Or.inl ⟨by rfl, ?_⟩) (by assumption) ?_
    rotate_left
    · intro v hSw
      try dsimp only at hSw
      go_simp
      with_reducible rfl
    try simp only [Act.put, List.setIfInBounds_toArray, List.set_cons_zero, List.set_cons_succ]
    refine wpAnyH_take (i := 5) (oi := { dst := some 105, op := Op.move (Operand.tmp 0), type := 25, pos := "law.go:78", after := #[{ on := 4, ground := Ground.guard }], guard := some (4, true) }) (v := ?_) rfl (by kernel_rfl) (by kernel_rfl) (by kernel_rfl) (fun _ _ _ h => h) (Or.inl ⟨by rfl, ?_⟩) (by assumption) ?_
    rotate_left
    · intro v hSw
      try dsimp only at hSw
      go_simp
      with_reducible rfl
    try simp only [Act.put, List.setIfInBounds_toArray, List.set_cons_zero, List.set_cons_succ]
    refine wpAnyH_take (i := 7) (oi := { dst := some 107, op := Op.fieldAddr 33 (Operand.tmp 4) 2, type := 0, pos := "law.go:78", after := #[{ on := 4, ground := Ground.guard }], guard := some (4, true) }) (v := ?_) rfl (by kernel_rfl) (by kernel_rfl) (by kernel_rfl) (fun _ _ _ h => h) (Or.inl ⟨by rfl, ?_⟩) (by assumption) ?_
    rotate_left
    · intro v hSw
      try dsimp only at hSw
      go_simp
      with_reducible rfl
    try simp only [Act.put, List.setIfInBounds_toArray, List.set_cons_zero, List.set_cons_succ]
    refine wpAnyH_take (i := 8) (oi := { dst := some 108, op := Op.load 4 (Operand.tmp 107), type := 4, pos := "law.go:78", after := #[{ on := 7, ground := Ground.data }, { on := 4, ground := Ground.guard }], guard := some (4, true) }) (v := ?_) rfl (by kernel_rfl) (by kernel_rfl) (by kernel_rfl) (fun _ _ _ h => h) (Or.inl ⟨by rfl, ?_⟩) (by assumption) ?_
    rotate_left
    · intro v hSw
      try dsimp only at hSw
      go_simp
      with_reducible rfl
    try simp only [Act.put, List.setIfInBounds_toArray, List.set_cons_zero, List.set_cons_succ]
    refine wpAnyH_take (i := 9) (oi := { dst := some 109, op := Op.unOp UnOp.not 4 (Operand.tmp 108), type := 4, pos := "law.go:78", after := #[{ on := 8, ground := Ground.data }, { on := 4, ground := Ground.guard }], guard := some (4, true) }) (v := ?_) rfl (by kernel_rfl) (by kernel_rfl) (by kernel_rfl) (fun _ _ _ h => h) (Or.inl ⟨by rfl, ?_⟩) (by assumption) ?_
    rotate_left
    · intro v hSw
      try dsimp only at hSw
      go_simp
      with_reducible rfl
    try simp only [Act.put, List.setIfInBounds_toArray, List.set_cons_zero, List.set_cons_succ]
    refine wpAnyH_ready (rs := [6]) (by kernel_rfl) (by simp) ?_
    refine AllReadyH.cons (o := { dst := some 106, op := Op.call { callee := Callee.value (Operand.func 22), args := #[Operand.tmp 105], argTypes := #[25] }, type := 4, pos := "law.go:78", after := #[{ on := 5, ground := Ground.data }, { on := 4, ground := Ground.chain }, { on := 4, ground := Ground.guard }], guard := some (4, true) }) rfl (fun K hK => ?_) AllReadyH.nil
    go_simp
    refine (alive_any S2.out.dk).mono ?_
    rintro e w3 ⟨rfl, rfl⟩
    go_wp2_with fail
    refine hK.out _ _ (rcs_cells S2.out.b0) (fun hHeld17 => ?_)
    clear hK K
    try simp only [Act.put, List.setIfInBounds_toArray, List.set_cons_zero, List.set_cons_succ]
    refine wpAnyH_take (i := 10) (oi := { dst := some 110, op := Op.binOp BinOp.eql 4 (Operand.tmp 106) (Operand.tmp 109) 4, type := 4, pos := "law.go:78", after := #[{ on := 6, ground := Ground.data }, { on := 9, ground := Ground.data }, { on := 4, ground := Ground.guard }], guard := some (4, true) }) (v := ?_) rfl (by kernel_rfl) (by kernel_rfl) (by kernel_rfl) (fun _ _ _ h => h) (Or.inl ⟨by rfl, ?_⟩) (by assumption) ?_
    rotate_left
    · intro v hSw
      try dsimp only at hSw
      go_simp
      with_reducible rfl
    try simp only [Act.put, List.setIfInBounds_toArray, List.set_cons_zero, List.set_cons_succ]
    refine wpAnyH_take (i := 11) (oi := { dst := some 111, op := Op.pick (Operand.tmp 104) (Operand.tmp 110) (Operand.const (Value.bool false)), type := 4, pos := "law.go:78", after := #[{ on := 4, ground := Ground.data }, { on := 10, ground := Ground.data }], guard := none }) (v := ?_) rfl (by kernel_rfl) (by kernel_rfl) (by kernel_rfl) (fun _ _ _ h => h) (Or.inl ⟨by rfl, ?_⟩) (by assumption) ?_
    rotate_left
    · intro v hSw
      try dsimp only at hSw
      go_simp
      with_reducible rfl
    try simp only [Act.put, List.setIfInBounds_toArray, List.set_cons_zero, List.set_cons_succ]
    refine wpAnyH_take (i := 12) (oi := { dst := some 112, op := Op.move (Operand.tmp 111), type := 4, pos := "law.go:78", after := #[{ on := 11, ground := Ground.data }, { on := 6, ground := Ground.chain }], guard := none }) (v := ?_) rfl (by kernel_rfl) (by kernel_rfl) (by kernel_rfl) (fun _ _ _ h => h) (Or.inl ⟨by rfl, ?_⟩) (by assumption) ?_
    rotate_left
    · intro v hSw
      try dsimp only at hSw
      go_simp
      with_reducible rfl
    try simp only [Act.put, List.setIfInBounds_toArray, List.set_cons_zero, List.set_cons_succ]
    refine wpAnyH_take (i := 13) (oi := { dst := some 113, op := Op.move (Operand.tmp 0), type := 25, pos := "law.go:78", after := #[{ on := 12, ground := Ground.guard }], guard := some (12, true) }) (v := ?_) rfl (by kernel_rfl) (by kernel_rfl) (by kernel_rfl) (fun _ _ _ h => h) (Or.inl ⟨by rfl, ?_⟩) (by assumption) ?_
    rotate_left
    · intro v hSw
      try dsimp only at hSw
      go_simp
      with_reducible rfl
    try simp only [Act.put, List.setIfInBounds_toArray, List.set_cons_zero, List.set_cons_succ]
    refine wpAnyH_take (i := 15) (oi := { dst := some 115, op := Op.fieldAddr 33 (Operand.tmp 4) 1, type := 0, pos := "law.go:78", after := #[{ on := 12, ground := Ground.guard }], guard := some (12, true) }) (v := ?_) rfl (by kernel_rfl) (by kernel_rfl) (by kernel_rfl) (fun _ _ _ h => h) (Or.inl ⟨by rfl, ?_⟩) (by assumption) ?_
    rotate_left
    · intro v hSw
      try dsimp only at hSw
      go_simp
      with_reducible rfl
    try simp only [Act.put, List.setIfInBounds_toArray, List.set_cons_zero, List.set_cons_succ]
    refine wpAnyH_take (i := 16) (oi := { dst := some 116, op := Op.load 30 (Operand.tmp 115), type := 30, pos := "law.go:78", after := #[{ on := 15, ground := Ground.data }, { on := 12, ground := Ground.guard }], guard := some (12, true) }) (v := ?_) rfl (by kernel_rfl) (by kernel_rfl) (by kernel_rfl) (fun _ _ _ h => h) (Or.inl ⟨by rfl, ?_⟩) (by assumption) ?_
    rotate_left
    · intro v hSw
      try dsimp only at hSw
      go_simp
      with_reducible rfl
    try simp only [Act.put, List.setIfInBounds_toArray, List.set_cons_zero, List.set_cons_succ]
    refine wpAnyH_take (i := 17) (oi := { dst := some 117, op := Op.call { callee := Callee.builtin Builtin.len, args := #[Operand.tmp 116], argTypes := #[30] }, type := 3, pos := "law.go:78", after := #[{ on := 16, ground := Ground.data }, { on := 12, ground := Ground.guard }], guard := some (12, true) }) (v := ?_) rfl (by kernel_rfl) (by kernel_rfl) (by kernel_rfl) (fun _ _ _ h => h) (Or.inl ⟨by rfl, ?_⟩) (by assumption) ?_
    rotate_left
    · intro v hSw
      try dsimp only at hSw
      go_simp
      with_reducible rfl
    try simp only [Act.put, List.setIfInBounds_toArray, List.set_cons_zero, List.set_cons_succ]
    refine wpAnyH_ready (rs := [14]) (by kernel_rfl) (by simp) ?_
    refine AllReadyH.cons (o := { dst := some 114, op := Op.call { callee := Callee.value (Operand.func 13), args := #[Operand.tmp 113], argTypes := #[25] }, type := 3, pos := "law.go:78", after := #[{ on := 13, ground := Ground.data }, { on := 12, ground := Ground.chain }, { on := 12, ground := Ground.guard }], guard := some (12, true) }) rfl (fun K hK => ?_) AllReadyH.nil
    go_simp
    refine (waiting_any S2.out.dk).mono ?_
    rintro e w3 ⟨rfl, rfl⟩
    go_wp2_with fail
    refine hK.out _ _ (rcs_cells S2.out.b0) (fun hHeld18 => ?_)
    clear hK K
    try simp only [Act.put, List.setIfInBounds_toArray, List.set_cons_zero, List.set_cons_succ]
    refine wpAnyH_take (i := 18) (oi := { dst := some 118, op := Op.binOp BinOp.eql 3 (Operand.tmp 114) (Operand.tmp 117) 3, type := 4, pos := "law.go:78", after := #[{ on := 14, ground := Ground.data }, { on := 17, ground := Ground.data }, { on := 12, ground := Ground.guard }], guard := some (12, true) }) (v := ?_) rfl (by kernel_rfl) (by kernel_rfl) (by kernel_rfl) (fun _ _ _ h => h) (Or.inl ⟨by rfl, ?_⟩) (by assumption) ?_
    rotate_left
    · intro v hSw
      try dsimp only at hSw
      go_simp
      with_reducible rfl
    try simp only [Act.put, List.setIfInBounds_toArray, List.set_cons_zero, List.set_cons_succ]
    refine wpAnyH_take (i := 19) (oi := { dst := some 119, op := Op.pick (Operand.tmp 112) (Operand.tmp 118) (Operand.const (Value.bool false)), type := 4, pos := "law.go:78", after := #[{ on := 12, ground := Ground.data }, { on := 18, ground := Ground.data }], guard := none }) (v := ?_) rfl (by kernel_rfl) (by kernel_rfl) (by kernel_rfl) (fun _ _ _ h => h) (Or.inl ⟨by rfl, ?_⟩) (by assumption) ?_
    rotate_left
    · intro v hSw
      try dsimp only at hSw
      go_simp
      with_reducible rfl
    try simp only [Act.put, List.setIfInBounds_toArray, List.set_cons_zero, List.set_cons_succ]
    refine wpAnyH_take (i := 20) (oi := { dst := some 120, op := Op.move (Operand.tmp 119), type := 4, pos := "law.go:78", after := #[{ on := 19, ground := Ground.data }, { on := 14, ground := Ground.chain }], guard := none }) (v := ?_) rfl (by kernel_rfl) (by kernel_rfl) (by kernel_rfl) (fun _ _ _ h => h) (Or.inl ⟨by rfl, ?_⟩) (by assumption) ?_
    rotate_left
    · intro v hSw
      try dsimp only at hSw
      go_simp
      with_reducible rfl
    try simp only [Act.put, List.setIfInBounds_toArray, List.set_cons_zero, List.set_cons_succ]
    refine wpAnyH_take (i := 21) (oi := { dst := some 121, op := Op.move (Operand.tmp 0), type := 25, pos := "law.go:78", after := #[{ on := 20, ground := Ground.guard }], guard := some (20, true) }) (v := ?_) rfl (by kernel_rfl) (by kernel_rfl) (by kernel_rfl) (fun _ _ _ h => h) (Or.inl ⟨by rfl, ?_⟩) (by assumption) ?_
    rotate_left
    · intro v hSw
      try dsimp only at hSw
      go_simp
      with_reducible rfl
    try simp only [Act.put, List.setIfInBounds_toArray, List.set_cons_zero, List.set_cons_succ]
    refine wpAnyH_take (i := 23) (oi := { dst := some 123, op := Op.fieldAddr 33 (Operand.tmp 4) 5, type := 0, pos := "law.go:78", after := #[{ on := 20, ground := Ground.guard }, { on := 27, ground := Ground.gcOnly Departure.lateStores }], guard := some (20, true) }) (v := ?_) rfl (by kernel_rfl) (by kernel_rfl) (by kernel_rfl) (fun _ _ _ h => h) (Or.inl ⟨by rfl, ?_⟩) (by assumption) ?_
    rotate_left
    · intro v hSw
      try dsimp only at hSw
      go_simp
      with_reducible rfl
    try simp only [Act.put, List.setIfInBounds_toArray, List.set_cons_zero, List.set_cons_succ]
    refine wpAnyH_take (i := 24) (oi := { dst := some 124, op := Op.load 31 (Operand.tmp 123), type := 31, pos := "law.go:78", after := #[{ on := 23, ground := Ground.data }, { on := 20, ground := Ground.guard }, { on := 27, ground := Ground.gcOnly Departure.lateStores }], guard := some (20, true) }) (v := ?_) rfl (by kernel_rfl) (by kernel_rfl) (by kernel_rfl) (fun _ _ _ h => h) (Or.inl ⟨by rfl, ?_⟩) (by assumption) ?_
    rotate_left
    · intro v hSw
      try dsimp only at hSw
      go_simp
      with_reducible rfl
    try simp only [Act.put, List.setIfInBounds_toArray, List.set_cons_zero, List.set_cons_succ]
    refine wpAnyH_ready (rs := [22]) (by kernel_rfl) (by simp) ?_
    refine AllReadyH.cons (o := { dst := some 122, op := Op.call { callee := Callee.value (Operand.func 14), args := #[Operand.tmp 121], argTypes := #[25] }, type := 31, pos := "law.go:78", after := #[{ on := 21, ground := Ground.data }, { on := 20, ground := Ground.chain }, { on := 20, ground := Ground.guard }], guard := some (20, true) }) rfl (fun K hK => ?_) AllReadyH.nil
    go_simp
    refine (acts_any S2.out.dk).mono ?_
    rintro e w3 ⟨rfl, rfl⟩
    go_wp2_with fail
    refine hK.out _ _ (rcs_cells S2.out.b0) (fun hHeld19 => ?_)
    clear hK K
    try simp only [Act.put, List.setIfInBounds_toArray, List.set_cons_zero, List.set_cons_succ]
    refine wpAnyH_take (i := 25) (oi := { dst := some 125, op := Op.binOp BinOp.eql 31 (Operand.tmp 122) (Operand.tmp 124) 31, type := 4, pos := "law.go:78", after := #[{ on := 22, ground := Ground.data }, { on := 24, ground := Ground.data }, { on := 20, ground := Ground.guard }, { on := 27, ground := Ground.gcOnly Departure.lateStores }], guard := some (20, true) }) (v := ?_) rfl (by kernel_rfl) (by kernel_rfl) (by kernel_rfl) (fun _ _ _ h => h) (Or.inl ⟨by rfl, ?_⟩) (by assumption) ?_
    rotate_left
    · intro v hSw
      try dsimp only at hSw
      go_simp
      with_reducible rfl
    try simp only [Act.put, List.setIfInBounds_toArray, List.set_cons_zero, List.set_cons_succ]
    refine wpAnyH_take (i := 26) (oi := { dst := some 126, op := Op.pick (Operand.tmp 120) (Operand.tmp 125) (Operand.const (Value.bool false)), type := 4, pos := "law.go:78", after := #[{ on := 20, ground := Ground.data }, { on := 25, ground := Ground.data }, { on := 27, ground := Ground.gcOnly Departure.lateStores }], guard := none }) (v := ?_) rfl (by kernel_rfl) (by kernel_rfl) (by kernel_rfl) (fun _ _ _ h => h) (Or.inl ⟨by rfl, ?_⟩) (by assumption) ?_
    rotate_left
    · intro v hSw
      try dsimp only at hSw
      go_simp
      with_reducible rfl
    try simp only [Act.put, List.setIfInBounds_toArray, List.set_cons_zero, List.set_cons_succ]
    refine wpAnyH_ready (rs := [27]) (by kernel_rfl) (by simp) ?_
    refine AllReadyH.cons (o := { dst := none, op := Op.store 33 (Operand.tmp 6) (Operand.tmp 100), type := 0, pos := "law.go:78", after := #[{ on := 0, ground := Ground.data }, { on := 22, ground := Ground.chain }, { on := 0, ground := Ground.phase }, { on := 1, ground := Ground.textOnly Departure.lateStores }, { on := 2, ground := Ground.textOnly Departure.lateStores }, { on := 3, ground := Ground.textOnly Departure.lateStores }, { on := 4, ground := Ground.textOnly Departure.lateStores }, { on := 5, ground := Ground.textOnly Departure.lateStores }, { on := 6, ground := Ground.textOnly Departure.lateStoresUnsure }, { on := 7, ground := Ground.textOnly Departure.lateStores }, { on := 8, ground := Ground.textOnly Departure.lateStores }, { on := 9, ground := Ground.textOnly Departure.lateStores }, { on := 10, ground := Ground.textOnly Departure.lateStores }, { on := 11, ground := Ground.textOnly Departure.lateStores }, { on := 12, ground := Ground.textOnly Departure.lateStores }, { on := 13, ground := Ground.textOnly Departure.lateStores }, { on := 14, ground := Ground.textOnly Departure.lateStoresUnsure }, { on := 15, ground := Ground.textOnly Departure.lateStores }, { on := 16, ground := Ground.textOnly Departure.lateStores }, { on := 17, ground := Ground.textOnly Departure.lateStoresUnsure }, { on := 18, ground := Ground.textOnly Departure.lateStores }, { on := 19, ground := Ground.textOnly Departure.lateStores }, { on := 20, ground := Ground.textOnly Departure.lateStores }, { on := 21, ground := Ground.textOnly Departure.lateStores }, { on := 22, ground := Ground.textOnly Departure.lateStoresUnsure }, { on := 23, ground := Ground.textOnly Departure.lateStores }, { on := 24, ground := Ground.textOnly Departure.lateStores }, { on := 25, ground := Ground.textOnly Departure.lateStores }, { on := 26, ground := Ground.textOnly Departure.lateStores }], guard := none }) rfl (fun K hK => ?_) AllReadyH.nil
    rw [if_pos (by rfl)]
    refine wp_store_box 33 (.tmp 6) (.tmp 100) rfl (w.heap.size + 2) (rcs D va (.slice Av D.wait.length cv)).toList rfl rfl S2.out.b2 rfl infoRef (rcs_one _ _ _ hc1 hc2) ?_
    intro w5 hb5 hk5
    have B5 := Lib.hid hb5
    have K5 := Lib.hid hk5
    clear hb5 hk5
    refine hK.out _ _ (rcs_cells (S2.out.b0.kp K5.out (fun e => by omega))) (fun hHeld20 => ?_)
    clear hK K
    try simp only [Act.put, List.setIfInBounds_toArray, List.set_cons_zero, List.set_cons_succ]
    refine wpAnyH_take (i := 28) (oi := { dst := some 7, op := Op.assign (Operand.tmp 126), type := 4, pos := "law.go:78", after := #[{ on := 26, ground := Ground.data }, { on := 27, ground := Ground.chain }, { on := 0, ground := Ground.phase }, { on := 1, ground := Ground.phase }, { on := 2, ground := Ground.phase }, { on := 3, ground := Ground.phase }, { on := 4, ground := Ground.phase }, { on := 5, ground := Ground.phase }, { on := 6, ground := Ground.phase }, { on := 7, ground := Ground.phase }, { on := 8, ground := Ground.phase }, { on := 9, ground := Ground.phase }, { on := 10, ground := Ground.phase }, { on := 11, ground := Ground.phase }, { on := 12, ground := Ground.phase }, { on := 13, ground := Ground.phase }, { on := 14, ground := Ground.phase }, { on := 15, ground := Ground.phase }, { on := 16, ground := Ground.phase }, { on := 17, ground := Ground.phase }, { on := 18, ground := Ground.phase }, { on := 19, ground := Ground.phase }, { on := 20, ground := Ground.phase }, { on := 21, ground := Ground.phase }, { on := 22, ground := Ground.phase }, { on := 23, ground := Ground.phase }, { on := 24, ground := Ground.phase }, { on := 25, ground := Ground.phase }, { on := 26, ground := Ground.phase }, { on := 27, ground := Ground.phase }], guard := none }) (v := ?_) rfl (by kernel_rfl) (by kernel_rfl) (by kernel_rfl) (fun _ _ _ h => h) (Or.inl ⟨by rfl, ?_⟩) (by assumption) ?_
    rotate_left
    · intro v hSw
      try dsimp only at hSw
      go_simp
      with_reducible rfl
    try simp only [Act.put, List.setIfInBounds_toArray, List.set_cons_zero, List.set_cons_succ]
    refine wpAnyH_done (by kernel_rfl) ?_ _
    go_wp2_with fail
    obtain ⟨q1, q2, q3⟩ := S2.out.fin K5.out
    rw [HDX.out]
    refine bodyPost_ret (v := .tuple #[.agg (rcs D va (.slice Av D.wait.length cv)), .bool true]) ?_ rfl ⟨va, _, rfl, q1, q2, q3⟩
    exact results_two Hr.out _ _ (w.heap.size + 2) 33 _ (0, 0) _ rfl B5.out Try.underlying33 rfl infoRef
end Go.Proofs.Ytbdiebkfkmjjiaa
