/- A state of a disk and its log, in both ways: how it lies in memory, and what keeps it. No condition. -/
import Derived.Test.YtfcljcikajaedaaGreatDoorMg41
import Derived.Test.YtfcljcikajaedaaGreatDoorMg42
import Derived.Test.YtfcljcikajaedaaGreatDoorMg44
import Derived.Test.YtfcljcikajaedaaGreatDoorMg3
import Derived.Test.YtfcljcikajaedaaGreatDoorMg11
namespace Go.Proofs.YtfcljcikajaedaaGreatDoor
open Go.RowKit Go.Maps

theorem Box.range_at {w : World} {g : Nat} {t : TypeId} (pre cs post : List Value) (h : Box w g t (pre ++ cs ++ post).toArray) : w.rangeAt g pre.length cs := fun j v hj => by
  have hl : j < cs.length := (List.getElem?_eq_some_iff.1 hj).1
  rw [h.cell, List.getElem?_toArray, List.getElem?_append_left (by simp; omega), List.getElem?_append_right (by omega), Nat.add_sub_cancel_left]
  exact hj
theorem wpList_store_part {ops : Array Oper} {rest : List Oper} {op : Oper} {a : Act} {w : World} {Q : Exit → Act → World → Prop} (hgd : op.guard = none) (ty : TypeId) (x y : Operand) (ho : op.op = .store ty x y)
    (g : Nat) (pre old cs post : List Value) (hx : a.eval x = .pointer (some ⟨g, pre.length, none⟩)) (hy : a.eval y = .agg cs.toArray) {t : TypeId} (hb : Box w g t (pre ++ old ++ post).toArray) (hl : old.length = cs.length)
    (hi : (Tryz.prog.info? ty).map (·.size) = some cs.length) (h1 : ∀ v ∈ cs, v.oneCell' = true)
    (k : ∀ W, Box W g t (pre ++ cs ++ post).toArray → Kp (fun k => k = g) w W → wpList Tryz.prog ops Q rest (a.put op.dst undef) W) : wpList Tryz.prog ops Q (op :: rest) a w := by
  have hth := hb.there
  refine wpList_store_mid hgd ty x y ho g pre.length cs.toArray hx hy (fun j hj => ?_) (by simpa using hi) (all_oneCell_toArray h1) ?_
  · have := hth (pre.length + j) (by simp at hj ⊢; omega)
    rwa [Nat.zero_add] at this
  · refine k _ ?_ (Kp.setCells _ pre.length w (Kp.refl _ w) (.inr rfl))
    have := Box.writes cs pre.length w (pre ++ old ++ post) hb (by simp; omega)
    have e : (pre ++ old ++ post).take pre.length ++ cs ++ (pre ++ old ++ post).drop (pre.length + cs.length) = pre ++ cs ++ post := by
      rw [List.append_assoc pre old post, List.take_left' rfl, ← hl, ← List.drop_drop, List.drop_left' rfl, List.drop_left' rfl]
    rwa [e] at this
/-- A state in memory: the program's disk is dp, the document's own d. -/
structure Ks (B : Nat) (w : World) (gs b : Nat) (dp d : Dm) (vo vw pl : Value) (ms : List Value) (is : Bool) (W : World) : Prop where
  box : Box W gs 44 (scs b d vo vw pl ms is).toArray
  ml : ms.length = 8
  dk : Dsk (fun k => B ≤ k) W b dp
  rf : Rf W vo vw d
  sB : B ≤ gs
  kp : Kp (fun k => B ≤ k) w W
/-- The program's log. -/
structure Kg (B g b : Nat) (l : Lm) (W : World) : Prop where
  lg : Box W g 93 (lcs b l)
  gB : B ≤ g
section
variable {B : Nat} {w W W' : World} {gs g b : Nat} {dp d d' : Dm} {vo vw vo' vw' pl : Value} {ms ms' : List Value} {is : Bool} {l : Lm}
theorem Ks.still (h : Ks B w gs b dp d vo vw pl ms is W) (hk : Kp (fun _ => False) W W') : Ks B w gs b dp d vo vw pl ms is W' :=
  ⟨h.box.kp hk (fun e => e), h.ml, h.dk.still hk, h.rf.still hk, h.sB, h.kp.trans hk.of_false⟩
theorem Kg.still (h : Kg B g b l W) (hk : Kp (fun _ => False) W W') : Kg B g b l W' := ⟨h.lg.kp hk (fun e => e), h.gB⟩
theorem Ks.new (h : Ks B w gs b dp d vo vw pl ms is W) : ∀ k, W.heap.size ≤ k → B ≤ k ∧ DT W k := fun k hk => ⟨by have := h.box.lt; have := h.sB; omega, .inl hk⟩
theorem Ks.tbl (h : Ks B w gs b dp d vo vw pl ms is W) (ht : Tbl w) (hB : B = w.heap.size) : Tbl W := ht.kp h.kp (fun e => by have := halves_old ht; omega)
/-- The program's disk turned, and its log. -/
theorem Ks.turn (h : Ks B w gs b dp d vo vw pl ms is W) {cs : Array Value} (hlg : Box W g 93 cs) (hgB : B ≤ g) (hd : Dsk (fun k => B ≤ k ∧ DT W k) W' b d') (hk : Kp (fun k => (B ≤ k ∧ DT W k) ∨ k = g) W W') : Ks B w gs b d' d vo vw pl ms is W' :=
  ⟨h.box.kp hk (fun e => by
      rcases e with e | e
      · exact not_DT h.box ⟨by decide, by decide, by decide⟩ e.2
      · exact ne_type hlg h.box (by decide) e), h.ml, hd.mono fun _ e => e.1,
    h.rf.kp hk (fun q cs fr e1 e2 => by
      rcases e2 with e2 | e2
      · rcases e1 with e1 | e1
        · exact not_DT e1 ⟨by decide, by decide, by decide⟩ e2.2
        · exact not_DT e1 ⟨by decide, by decide, by decide⟩ e2.2
      · rcases e1 with e1 | e1
        · exact type_off e1 hlg (by decide) e2
        · exact type_off e1 hlg (by decide) e2), h.sB,
    h.kp.trans (hk.mono fun k _ e => by rcases e with e | rfl; exact e.1; exact hgB)⟩
theorem Ks.disk (h : Ks B w gs b dp d vo vw pl ms is W) (hd : Dsk (fun k => B ≤ k ∧ DT W k) W' b d') (hk : Kp (fun k => B ≤ k ∧ DT W k) W W') : Ks B w gs b d' d vo vw pl ms is W' :=
  ⟨h.box.dt hk ⟨by decide, by decide, by decide⟩, h.ml, hd.mono fun _ e => e.1, h.rf.dt hk, h.sB, h.kp.trans (hk.mono fun _ _ e => e.1)⟩
theorem Kg.dt (h : Kg B g b l W) (hk : Kp (fun k => B ≤ k ∧ DT W k) W W') : Kg B g b l W' := ⟨h.lg.dt hk ⟨by decide, by decide, by decide⟩, h.gB⟩
/-- A state's block is told anew. -/
theorem Ks.told (h : Ks B w gs b dp d vo vw pl ms is W) {pl' : Value} {is' : Bool} (hb : Box W' gs 44 (scs b d' vo' vw' pl' ms' is').toArray) (hm : ms'.length = 8) (hr : Rf W vo' vw' d') (hk : Kp (fun k => k = gs) W W') : Ks B w gs b dp d' vo' vw' pl' ms' is' W' :=
  ⟨hb, hm, h.dk.off h.box ⟨by decide, by decide, by decide⟩ hk, hr.kp hk (fun q cs fr e1 e2 => by
      rcases e1 with e1 | e1
      · exact type_off e1 h.box (by decide) e2
      · exact type_off e1 h.box (by decide) e2), h.sB, h.kp.trans (hk.mono fun k _ e => by rw [show k = gs from e]; exact h.sB)⟩
theorem Kg.told (h : Kg B g b l W) {cs : Array Value} (hs : Box W gs 44 cs) (hk : Kp (fun k => k = gs) W W') : Kg B g b l W' :=
  ⟨h.lg.kp hk (fun e => ne_type hs h.lg (by decide) e), h.gB⟩
theorem scs_disk (b : Nat) (d : Dm) (vo vw pl : Value) (ms : List Value) (is : Bool) : scs b d vo vw pl ms is = [.pointer (some ⟨b, 0, none⟩)] ++ (rcs d vo vw).toList ++ (pl :: ms ++ [.bool is]) := rfl
theorem scs_log (b : Nat) (d : Dm) (vo vw pl : Value) (ms : List Value) (is : Bool) : scs b d vo vw pl ms is = (.pointer (some ⟨b, 0, none⟩) :: (rcs d vo vw).toList ++ [pl]) ++ ms ++ [.bool is] := rfl
theorem Ks.dbox (h : Ks B w gs b dp d vo vw pl ms is W) : W.rangeAt gs 1 (rcs d vo vw).toList := by
  have := h.box
  rw [scs_disk] at this
  exact Box.range_at [_] _ _ this
theorem Ks.lbox (h : Ks B w gs b dp d vo vw pl ms is W) : W.rangeAt gs 8 ms := by
  have := h.box
  rw [scs_log] at this
  exact Box.range_at (.pointer (some ⟨b, 0, none⟩) :: (rcs d vo vw).toList ++ [pl]) _ _ this
theorem eight {ms : List Value} (h : ms.length = 8) : ∃ a0 a1 a2 a3 a4 a5 a6 a7, ms = [a0, a1, a2, a3, a4, a5, a6, a7] := by
  rcases ms with _ | ⟨a0, _ | ⟨a1, _ | ⟨a2, _ | ⟨a3, _ | ⟨a4, _ | ⟨a5, _ | ⟨a6, _ | ⟨a7, _ | ⟨a8, ms⟩⟩⟩⟩⟩⟩⟩⟩⟩ <;> simp at h
  exact ⟨_, _, _, _, _, _, _, _, rfl⟩
theorem Ks.cells (h : Ks B w gs b dp d vo vw pl ms is W) : W.cell? ⟨gs, 0, none⟩ = some (.pointer (some ⟨b, 0, none⟩)) ∧ W.cell? ⟨gs, 7, none⟩ = some pl ∧ W.cell? ⟨gs, 16, none⟩ = some (.bool is) := by
  obtain ⟨a0, a1, a2, a3, a4, a5, a6, a7, rfl⟩ := eight h.ml
  exact ⟨h.box.cell 0, h.box.cell 7, h.box.cell 16⟩
theorem Ks.setL (h : Ks B w gs b dp d vo vw pl ms is W) (pl' : Value) : Ks B w gs b dp d vo vw pl' ms is (W.setCell ⟨gs, 7, none⟩ pl') := by
  obtain ⟨a0, a1, a2, a3, a4, a5, a6, a7, rfl⟩ := eight h.ml
  exact h.told (h.box.put 7 pl') rfl h.rf ((Kp.refl (fun k => k = gs) W).setCell (p := ⟨gs, 7, none⟩) (.inr rfl) _)
theorem Ks.setI (h : Ks B w gs b dp d vo vw pl ms is W) (is' : Bool) : Ks B w gs b dp d vo vw pl ms is' (W.setCell ⟨gs, 16, none⟩ (.bool is')) := by
  obtain ⟨a0, a1, a2, a3, a4, a5, a6, a7, rfl⟩ := eight h.ml
  exact h.told (h.box.put 16 (.bool is')) rfl h.rf ((Kp.refl (fun k => k = gs) W).setCell (p := ⟨gs, 16, none⟩) (.inr rfl) _)
theorem Kg.cell (h : Kg B g b l W) {cs : Array Value} (hs : Box W gs 44 cs) (i : Nat) (v : Value) : Kg B g b l (W.setCell ⟨gs, i, none⟩ v) :=
  h.told hs ((Kp.refl (fun k => k = gs) W).setCell (p := ⟨gs, i, none⟩) (.inr rfl) _)
end
/-- Trim in the document's own words, as the log's. -/
theorem rtrim_all {w : World} {vo vw : Value} {d : Dm} (h0 : Rf w vo vw d) (ok : d.ok) (hw : d.wait.length + 1 < 1073741824) {Bd : Nat} (hB : Bd + 10 < 18446744073709551616) (hg : Good Bd d) {l : Lm} (hk : Lk Bd d l) :
    Calls Tryz.prog 54 #[.agg (mcs l ((l.h.n : Int) - l.left)).toArray, .agg (rcs d vo vw)] w fun e w' => ∃ vo' vw', e = .returned (.tuple #[.agg (mcs (l.trimS d).1 (((l.trimS d).1.h.n : Int) - (l.trimS d).1.left)).toArray, .agg (rcs (l.trimS d).2.1 vo' vw'), .int .i64 (l.trimS d).2.2]) ∧ Rf w' vo' vw' (l.trimS d).2.1 ∧ Kp (fun _ => False) w w' := by
  rcases hd : l.dead with _ | _
  · obtain ⟨h1, h2, h3, _, _⟩ := hk.trim hg ok hw hB hd
    refine (rtrim_any h0 ok hw l _ hd hk.a_ (hk.newOk hB).1).mono ?_
    rintro e w' ⟨va, vb, rfl, hr, hkp⟩
    rw [h3, ← h1, ← h2]
    exact ⟨va, vb, rfl, by rw [h1]; exact hr, hkp⟩
  · have e : l.trimS d = (l, d, 4) := by unfold Lm.trimS; rw [if_pos hd]
    rw [e]
    exact rtrim_dead h0 l _ hd
end Go.Proofs.YtfcljcikajaedaaGreatDoor

/- A log is trimmed, in both ways: they answer alike. Conditions: the disk's own; the log's own. -/
namespace Go.Proofs.YtfcljcikajaedaaGreatDoor
open Go.RowKit Go.Maps

set_option maxRecDepth 100000 in
set_option maxHeartbeats 8000000 in
theorem trims_any {B : Nat} {w W : World} {gs g b : Nat} {d : Dm} {vo vw : Value} {l : Lm} (h : Ks B w gs b d d vo vw (.pointer (some ⟨g, 0, none⟩)) (mcs l ((l.h.n : Int) - l.left)) true W) (hg : Kg B g b l W) (ht : Tbl W) (hw : d.wait.length + 1 < 1073741824) {Bd : Nat} (hB : Bd + 10 < 18446744073709551616) (hgd : Good Bd d) (hk : Lk Bd d l) :
    Calls Tryz.prog 25 #[.pointer (some ⟨gs, 0, none⟩)] W fun e W' => e = .returned (.bool true) ∧ ∃ vo' vw', Ks B w gs b (l.trimS d).2.1 (l.trimS d).2.1 vo' vw' (.pointer (some ⟨g, 0, none⟩)) (mcs (l.trimS d).1 (((l.trimS d).1.h.n : Int) - (l.trimS d).1.left)) true W' ∧ Kg B g b (l.trimS d).1 W' := by
  have ok := h.dk.ok
  have htr := trim_any (F := fun k => B ≤ k ∧ DT W k) h.new h.dk.bothG ht hg.lg (hk.ok (by omega)) hw
  have HRT := Lib.hid (fun (v : World) (hh : Rf v vo vw d) => rtrim_all hh ok hw hB hgd hk)
  obtain ⟨u1, hu⟩ : ∃ u1, ((l.trimS d).1.h.n : Int) - (l.trimS d).1.left = u1 := ⟨_, rfl⟩
  rw [hu] at HRT ⊢
  clear hu
  generalize l.trimS d = T at *
  obtain ⟨l1, d1, e1⟩ := T
  dsimp only at htr HRT ⊢
  have HTR := Lib.hid htr
  have S0 := Lib.hid h
  have G0 := Lib.hid hg
  obtain ⟨y0, y7, y16⟩ := h.cells
  clear htr h hg ht hw hB hgd hk ok
  go_enter Tryz.func25, Tryz.ntmps25
  go_wp2_with fail
  refine HTR.out.mono ?_
  rintro e w1 ⟨rfl, hd1, hb1, hk1⟩
  have S1 := Lib.hid (S0.out.turn G0.out.lg G0.out.gB hd1 hk1)
  have G1 := Lib.hid (Kg.mk (l := l1) hb1 G0.out.gB)
  have DR1 := Lib.hid ((Kp.refl (fun _ => False) w1).drew)
  clear hd1 hb1 hk1 y0 y7 y16 S0 G0 HTR
  go_upto_region 2 with fail
  try simp only [Act.put]
  go_cut [4, 5, 6] (fun p4 p5 p6 wy => ∃ (g4 g5 : Nat) (va vb : Value), p4 = .pointer (some ⟨g4, 0, none⟩) ∧ p5 = .pointer (some ⟨g5, 0, none⟩) ∧ p6 = .int .i64 e1 ∧ Box wy g4 42 (mcs l1 u1).toArray ∧ Box wy g5 37 (rcs d1 va vb) ∧ Rf wy va vb d1 ∧ Kp (fun _ => False) w1 wy)
  case first =>
    refine wp_region_held_drew (S := fun v => Kp (fun _ => False) w1 v) (by kernel_rfl) (DR1.out) (fun hHeld => ?_)
    refine tk 0 (h := ?_)
    refine tk 1 (h := ?_)
    refine tk 2 (h := ?_)
    refine wpAnyH_take (i := 3) (oi := { dst := some 16, op := Op.load 42 (Operand.tmp 15), type := 42, pos := "law.go:79", after := #[{ on := 2, ground := Ground.data }], guard := none }) (v := _) rfl (by kernel_rfl) (by kernel_rfl) (by kernel_rfl) (fun _ _ _ h => h) (yieldsIf_load_mid (by rfl) _ _ rfl gs 8 rfl (mcs l ((l.h.n : Int) - l.left)) _ (fun v hv => (S1.out.still hv).lbox) Tryz.underlying42 rfl info_rlog) (by assumption) ?_
    try simp only [Act.put, List.setIfInBounds_toArray, List.set_cons_zero, List.set_cons_succ]
    refine tk 4 (h := ?_)
    refine tk 5 (h := ?_)
    refine tk 6 (h := ?_)
    refine wpAnyH_take (i := 7) (oi := { dst := some 20, op := Op.load 37 (Operand.tmp 19), type := 37, pos := "law.go:79", after := #[{ on := 6, ground := Ground.data }], guard := none }) (v := _) rfl (by kernel_rfl) (by kernel_rfl) (by kernel_rfl) (fun _ _ _ h => h) (yieldsIf_load_mid (by rfl) _ _ rfl gs 1 rfl ((rcs d vo vw).toList) _ (fun v hv => (S1.out.still hv).dbox) Tryz.underlying37 rfl infoRef) (by assumption) ?_
    try simp only [Act.put, List.setIfInBounds_toArray, List.set_cons_zero, List.set_cons_succ]
    refine wpAnyH_ready (rs := [8, 13, 14]) (by kernel_rfl) (by simp) ?_
    refine (rdc 8 (h := fun K hK => ?_) (hs := rdc 13 (h := fun K hK => ?_) (hs := rdc 14 (h := fun K hK => ?_) (hs := AllReadyH.nil))))
    · go_simp
      refine (HRT.out _ (S1.out.rf.still DR1.out)).mono ?_
      rintro e x1 ⟨va, vb, rfl, r7, kc⟩
      have KN1 := Lib.hid ((DR1.out).trans kc)
      have R7 := Lib.hid (r7)
      clear r7
      clear kc
      go_wp2_with fail
      refine hK.out _ _ (KN1.out) (fun hHeld22 => ?_)
      clear hK K
      try simp only [Act.put, List.setIfInBounds_toArray, List.set_cons_zero, List.set_cons_succ]
      refine tk 9 (h := ?_)
      refine tk 10 (h := ?_)
      refine tk 11 (h := ?_)
      refine tk 12 (h := ?_)
      refine wpAnyH_ready (rs := [13, 14]) (by kernel_rfl) (by simp) ?_
      refine (rdc 13 (h := fun K hK => ?_) (hs := rdc 14 (h := fun K hK => ?_) (hs := AllReadyH.nil)))
      · go_simp
        have ka : Kp (fun _ => False) w1 (x1.alloc (.cells #[.int .u64 0, .int .u64 0, .int .i64 0, .string ⟨#[]⟩, .int .i64 0, .int .u64 0, .int .i64 0, .bool false] 42)) := (KN1.out).alloc (.cells #[.int .u64 0, .int .u64 0, .int .i64 0, .string ⟨#[]⟩, .int .i64 0, .int .u64 0, .int .i64 0, .bool false] 42)
        have kx : Kp (fun _ => False) x1 (x1.alloc (.cells #[.int .u64 0, .int .u64 0, .int .i64 0, .string ⟨#[]⟩, .int .i64 0, .int .u64 0, .int .i64 0, .bool false] 42)) := (Kp.refl (fun _ => False) x1).alloc (.cells #[.int .u64 0, .int .u64 0, .int .i64 0, .string ⟨#[]⟩, .int .i64 0, .int .u64 0, .int .i64 0, .bool false] 42)
        have hge : w1.heap.size ≤ x1.heap.size := (KN1.out).size
        have R7 := Lib.hid (R7.out.still kx)
        have hb6 : Box (x1.alloc (.cells #[.int .u64 0, .int .u64 0, .int .i64 0, .string ⟨#[]⟩, .int .i64 0, .int .u64 0, .int .i64 0, .bool false] 42)) x1.heap.size 42 #[.int .u64 0, .int .u64 0, .int .i64 0, .string ⟨#[]⟩, .int .i64 0, .int .u64 0, .int .i64 0, .bool false] := Box.new x1 42 #[.int .u64 0, .int .u64 0, .int .i64 0, .string ⟨#[]⟩, .int .i64 0, .int .u64 0, .int .i64 0, .bool false]
        obtain ⟨g4, hg8⟩ : ∃ g4, x1.heap.size = g4 := ⟨_, rfl⟩
        rw [hg8] at hb6
        try rw [hg8]
        have HGg4 := Lib.hid (show w1.heap.size ≤ g4 by omega)
        clear hg8 hge kx
        generalize (x1.alloc (.cells #[.int .u64 0, .int .u64 0, .int .i64 0, .string ⟨#[]⟩, .int .i64 0, .int .u64 0, .int .i64 0, .bool false] 42)) = x2 at *
        have BA := Lib.hid hb6
        have KN2 := Lib.hid ka
        clear hb6 ka
        refine hK.out _ _ (KN2.out) (fun hHeld23 => ?_)
        clear hK K
        try simp only [Act.put, List.setIfInBounds_toArray, List.set_cons_zero, List.set_cons_succ]
        refine rd 14 (h := fun K hK => ?_)
        go_simp
        have ka : Kp (fun _ => False) w1 (x2.alloc (.cells #[.slice none 0 0, .slice none 0 0, .bool false, .int .i64 0, .string ⟨#[]⟩, .int .u64 0] 37)) := (KN2.out).alloc (.cells #[.slice none 0 0, .slice none 0 0, .bool false, .int .i64 0, .string ⟨#[]⟩, .int .u64 0] 37)
        have kx : Kp (fun _ => False) x2 (x2.alloc (.cells #[.slice none 0 0, .slice none 0 0, .bool false, .int .i64 0, .string ⟨#[]⟩, .int .u64 0] 37)) := (Kp.refl (fun _ => False) x2).alloc (.cells #[.slice none 0 0, .slice none 0 0, .bool false, .int .i64 0, .string ⟨#[]⟩, .int .u64 0] 37)
        have hge : w1.heap.size ≤ x2.heap.size := (KN2.out).size
        have R7 := Lib.hid (R7.out.still kx)
        have BA := Lib.hid (BA.out.kp kx (fun e => e))
        have hb6 : Box (x2.alloc (.cells #[.slice none 0 0, .slice none 0 0, .bool false, .int .i64 0, .string ⟨#[]⟩, .int .u64 0] 37)) x2.heap.size 37 #[.slice none 0 0, .slice none 0 0, .bool false, .int .i64 0, .string ⟨#[]⟩, .int .u64 0] := Box.new x2 37 #[.slice none 0 0, .slice none 0 0, .bool false, .int .i64 0, .string ⟨#[]⟩, .int .u64 0]
        obtain ⟨g5, hg8⟩ : ∃ g5, x2.heap.size = g5 := ⟨_, rfl⟩
        rw [hg8] at hb6
        try rw [hg8]
        have HGg5 := Lib.hid (show w1.heap.size ≤ g5 by omega)
        clear hg8 hge kx
        generalize (x2.alloc (.cells #[.slice none 0 0, .slice none 0 0, .bool false, .int .i64 0, .string ⟨#[]⟩, .int .u64 0] 37)) = x3 at *
        have BB := Lib.hid hb6
        have KN3 := Lib.hid ka
        clear hb6 ka
        refine hK.out _ _ (KN3.out) (fun hHeld24 => ?_)
        clear hK K
        try simp only [Act.put, List.setIfInBounds_toArray, List.set_cons_zero, List.set_cons_succ]
        refine rd 15 (h := fun K hK => ?_)
        rw [if_pos (by rfl)]
        refine wp_store_box 42 (.tmp 4) (.tmp 22) rfl g4 (mcs l1 u1) rfl rfl BA.out rfl info_rlog (mcs_one _ _) ?_
        intro x4 hb5 hk5
        have R7 := Lib.hid (R7.out.kp hk5 (fun q cs fr e1 e2 => by rcases e1 with e1 | e1 <;> exact type_off e1 BA.out (by decide) e2))
        have BB := Lib.hid (BB.out.kp hk5 (fun e => type_off BB.out BA.out (by decide) e))
        have KN4 := Lib.hid ((KN3.out).trans_new hk5 (fun q e => .inl (by have := HGg4.out; omega)))
        have BA := Lib.hid hb5
        clear hb5 hk5
        refine hK.out _ _ (KN4.out) (fun hHeld25 => ?_)
        clear hK K
        try simp only [Act.put]
        refine rd 16 (h := fun K hK => ?_)
        rw [if_pos (by rfl)]
        refine dwp_store_box 37 (.tmp 5) (.tmp 23) rfl g5 (rcs d1 va vb).toList rfl rfl BB.out rfl infoRef (rcs_one _ _ _ R7.out.c1.1 R7.out.c1.2) ?_
        intro x5 hb5 hk5
        have R7 := Lib.hid (R7.out.kp hk5 (fun q cs fr e1 e2 => by rcases e1 with e1 | e1 <;> exact type_off e1 BB.out (by decide) e2))
        have BA := Lib.hid (BA.out.kp hk5 (fun e => type_off BA.out BB.out (by decide) e))
        have KN5 := Lib.hid ((KN4.out).trans_new hk5 (fun q e => .inl (by have := HGg5.out; omega)))
        have BB := Lib.hid hb5
        clear hb5 hk5
        refine hK.out _ _ (KN5.out) (fun hHeld26 => ?_)
        clear hK K
        try simp only [Act.put]
        refine tk 17 (h := ?_)
        refine wpAnyH_done (by kernel_rfl) ?_ _
        go_wp2_with fail
        go_meet
        exact ⟨g4, g5, va, vb, rfl, rfl, rfl, BA.out, BB.out, R7.out, KN5.out⟩
      · go_simp
        have ka : Kp (fun _ => False) w1 (x1.alloc (.cells #[.slice none 0 0, .slice none 0 0, .bool false, .int .i64 0, .string ⟨#[]⟩, .int .u64 0] 37)) := (KN1.out).alloc (.cells #[.slice none 0 0, .slice none 0 0, .bool false, .int .i64 0, .string ⟨#[]⟩, .int .u64 0] 37)
        have kx : Kp (fun _ => False) x1 (x1.alloc (.cells #[.slice none 0 0, .slice none 0 0, .bool false, .int .i64 0, .string ⟨#[]⟩, .int .u64 0] 37)) := (Kp.refl (fun _ => False) x1).alloc (.cells #[.slice none 0 0, .slice none 0 0, .bool false, .int .i64 0, .string ⟨#[]⟩, .int .u64 0] 37)
        have hge : w1.heap.size ≤ x1.heap.size := (KN1.out).size
        have R7 := Lib.hid (R7.out.still kx)
        have hb6 : Box (x1.alloc (.cells #[.slice none 0 0, .slice none 0 0, .bool false, .int .i64 0, .string ⟨#[]⟩, .int .u64 0] 37)) x1.heap.size 37 #[.slice none 0 0, .slice none 0 0, .bool false, .int .i64 0, .string ⟨#[]⟩, .int .u64 0] := Box.new x1 37 #[.slice none 0 0, .slice none 0 0, .bool false, .int .i64 0, .string ⟨#[]⟩, .int .u64 0]
        obtain ⟨g5, hg8⟩ : ∃ g5, x1.heap.size = g5 := ⟨_, rfl⟩
        rw [hg8] at hb6
        try rw [hg8]
        have HGg5 := Lib.hid (show w1.heap.size ≤ g5 by omega)
        clear hg8 hge kx
        generalize (x1.alloc (.cells #[.slice none 0 0, .slice none 0 0, .bool false, .int .i64 0, .string ⟨#[]⟩, .int .u64 0] 37)) = x6 at *
        have BB := Lib.hid hb6
        have KN6 := Lib.hid ka
        clear hb6 ka
        refine hK.out _ _ (KN6.out) (fun hHeld27 => ?_)
        clear hK K
        try simp only [Act.put, List.setIfInBounds_toArray, List.set_cons_zero, List.set_cons_succ]
        refine rd 13 (h := fun K hK => ?_)
        go_simp
        have ka : Kp (fun _ => False) w1 (x6.alloc (.cells #[.int .u64 0, .int .u64 0, .int .i64 0, .string ⟨#[]⟩, .int .i64 0, .int .u64 0, .int .i64 0, .bool false] 42)) := (KN6.out).alloc (.cells #[.int .u64 0, .int .u64 0, .int .i64 0, .string ⟨#[]⟩, .int .i64 0, .int .u64 0, .int .i64 0, .bool false] 42)
        have kx : Kp (fun _ => False) x6 (x6.alloc (.cells #[.int .u64 0, .int .u64 0, .int .i64 0, .string ⟨#[]⟩, .int .i64 0, .int .u64 0, .int .i64 0, .bool false] 42)) := (Kp.refl (fun _ => False) x6).alloc (.cells #[.int .u64 0, .int .u64 0, .int .i64 0, .string ⟨#[]⟩, .int .i64 0, .int .u64 0, .int .i64 0, .bool false] 42)
        have hge : w1.heap.size ≤ x6.heap.size := (KN6.out).size
        have R7 := Lib.hid (R7.out.still kx)
        have BB := Lib.hid (BB.out.kp kx (fun e => e))
        have hb6 : Box (x6.alloc (.cells #[.int .u64 0, .int .u64 0, .int .i64 0, .string ⟨#[]⟩, .int .i64 0, .int .u64 0, .int .i64 0, .bool false] 42)) x6.heap.size 42 #[.int .u64 0, .int .u64 0, .int .i64 0, .string ⟨#[]⟩, .int .i64 0, .int .u64 0, .int .i64 0, .bool false] := Box.new x6 42 #[.int .u64 0, .int .u64 0, .int .i64 0, .string ⟨#[]⟩, .int .i64 0, .int .u64 0, .int .i64 0, .bool false]
        obtain ⟨g4, hg8⟩ : ∃ g4, x6.heap.size = g4 := ⟨_, rfl⟩
        rw [hg8] at hb6
        try rw [hg8]
        have HGg4 := Lib.hid (show w1.heap.size ≤ g4 by omega)
        clear hg8 hge kx
        generalize (x6.alloc (.cells #[.int .u64 0, .int .u64 0, .int .i64 0, .string ⟨#[]⟩, .int .i64 0, .int .u64 0, .int .i64 0, .bool false] 42)) = x7 at *
        have BA := Lib.hid hb6
        have KN7 := Lib.hid ka
        clear hb6 ka
        refine hK.out _ _ (KN7.out) (fun hHeld28 => ?_)
        clear hK K
        try simp only [Act.put, List.setIfInBounds_toArray, List.set_cons_zero, List.set_cons_succ]
        refine rd 15 (h := fun K hK => ?_)
        rw [if_pos (by rfl)]
        refine wp_store_box 42 (.tmp 4) (.tmp 22) rfl g4 (mcs l1 u1) rfl rfl BA.out rfl info_rlog (mcs_one _ _) ?_
        intro x8 hb5 hk5
        have R7 := Lib.hid (R7.out.kp hk5 (fun q cs fr e1 e2 => by rcases e1 with e1 | e1 <;> exact type_off e1 BA.out (by decide) e2))
        have BB := Lib.hid (BB.out.kp hk5 (fun e => type_off BB.out BA.out (by decide) e))
        have KN8 := Lib.hid ((KN7.out).trans_new hk5 (fun q e => .inl (by have := HGg4.out; omega)))
        have BA := Lib.hid hb5
        clear hb5 hk5
        refine hK.out _ _ (KN8.out) (fun hHeld29 => ?_)
        clear hK K
        try simp only [Act.put]
        refine rd 16 (h := fun K hK => ?_)
        rw [if_pos (by rfl)]
        refine dwp_store_box 37 (.tmp 5) (.tmp 23) rfl g5 (rcs d1 va vb).toList rfl rfl BB.out rfl infoRef (rcs_one _ _ _ R7.out.c1.1 R7.out.c1.2) ?_
        intro x9 hb5 hk5
        have R7 := Lib.hid (R7.out.kp hk5 (fun q cs fr e1 e2 => by rcases e1 with e1 | e1 <;> exact type_off e1 BB.out (by decide) e2))
        have BA := Lib.hid (BA.out.kp hk5 (fun e => type_off BA.out BB.out (by decide) e))
        have KN9 := Lib.hid ((KN8.out).trans_new hk5 (fun q e => .inl (by have := HGg5.out; omega)))
        have BB := Lib.hid hb5
        clear hb5 hk5
        refine hK.out _ _ (KN9.out) (fun hHeld30 => ?_)
        clear hK K
        try simp only [Act.put]
        refine tk 17 (h := ?_)
        refine wpAnyH_done (by kernel_rfl) ?_ _
        go_wp2_with fail
        go_meet
        exact ⟨g4, g5, va, vb, rfl, rfl, rfl, BA.out, BB.out, R7.out, KN9.out⟩
    · go_simp
      have ka : Kp (fun _ => False) w1 (w1.alloc (.cells #[.int .u64 0, .int .u64 0, .int .i64 0, .string ⟨#[]⟩, .int .i64 0, .int .u64 0, .int .i64 0, .bool false] 42)).drew := ((Kp.refl (fun _ => False) w1).alloc (.cells #[.int .u64 0, .int .u64 0, .int .i64 0, .string ⟨#[]⟩, .int .i64 0, .int .u64 0, .int .i64 0, .bool false] 42)).drew
      have kx : Kp (fun _ => False) w1 (w1.alloc (.cells #[.int .u64 0, .int .u64 0, .int .i64 0, .string ⟨#[]⟩, .int .i64 0, .int .u64 0, .int .i64 0, .bool false] 42)).drew := ((Kp.refl (fun _ => False) w1).alloc (.cells #[.int .u64 0, .int .u64 0, .int .i64 0, .string ⟨#[]⟩, .int .i64 0, .int .u64 0, .int .i64 0, .bool false] 42)).drew
      have hge : w1.heap.size ≤ w1.heap.size := Nat.le_refl _
      have hb6 : Box (w1.alloc (.cells #[.int .u64 0, .int .u64 0, .int .i64 0, .string ⟨#[]⟩, .int .i64 0, .int .u64 0, .int .i64 0, .bool false] 42)).drew w1.heap.size 42 #[.int .u64 0, .int .u64 0, .int .i64 0, .string ⟨#[]⟩, .int .i64 0, .int .u64 0, .int .i64 0, .bool false] := Box.new w1 42 #[.int .u64 0, .int .u64 0, .int .i64 0, .string ⟨#[]⟩, .int .i64 0, .int .u64 0, .int .i64 0, .bool false]
      obtain ⟨g4, hg8⟩ : ∃ g4, w1.heap.size = g4 := ⟨_, rfl⟩
      rw [hg8] at hb6
      try rw [hg8]
      have HGg4 := Lib.hid (show w1.heap.size ≤ g4 by omega)
      clear hg8 hge kx
      generalize (w1.alloc (.cells #[.int .u64 0, .int .u64 0, .int .i64 0, .string ⟨#[]⟩, .int .i64 0, .int .u64 0, .int .i64 0, .bool false] 42)).drew = x10 at *
      have BA := Lib.hid hb6
      have KN10 := Lib.hid ka
      clear hb6 ka
      refine hK.out _ _ (KN10.out) (fun hHeld31 => ?_)
      clear hK K
      try simp only [Act.put, List.setIfInBounds_toArray, List.set_cons_zero, List.set_cons_succ]
      refine wpAnyH_ready (rs := [8, 14]) (by kernel_rfl) (by simp) ?_
      refine (rdc 8 (h := fun K hK => ?_) (hs := rdc 14 (h := fun K hK => ?_) (hs := AllReadyH.nil)))
      · go_simp
        refine (HRT.out _ (S1.out.rf.still KN10.out)).mono ?_
        rintro e x11 ⟨va, vb, rfl, r7, kc⟩
        have BA := Lib.hid (BA.out.kp kc (fun e => e))
        have KN11 := Lib.hid ((KN10.out).trans kc)
        have R7 := Lib.hid (r7)
        clear r7
        clear kc
        go_wp2_with fail
        refine hK.out _ _ (KN11.out) (fun hHeld32 => ?_)
        clear hK K
        try simp only [Act.put, List.setIfInBounds_toArray, List.set_cons_zero, List.set_cons_succ]
        refine tk 9 (h := ?_)
        refine tk 10 (h := ?_)
        refine tk 11 (h := ?_)
        refine tk 12 (h := ?_)
        refine rd 14 (h := fun K hK => ?_)
        go_simp
        have ka : Kp (fun _ => False) w1 (x11.alloc (.cells #[.slice none 0 0, .slice none 0 0, .bool false, .int .i64 0, .string ⟨#[]⟩, .int .u64 0] 37)) := (KN11.out).alloc (.cells #[.slice none 0 0, .slice none 0 0, .bool false, .int .i64 0, .string ⟨#[]⟩, .int .u64 0] 37)
        have kx : Kp (fun _ => False) x11 (x11.alloc (.cells #[.slice none 0 0, .slice none 0 0, .bool false, .int .i64 0, .string ⟨#[]⟩, .int .u64 0] 37)) := (Kp.refl (fun _ => False) x11).alloc (.cells #[.slice none 0 0, .slice none 0 0, .bool false, .int .i64 0, .string ⟨#[]⟩, .int .u64 0] 37)
        have hge : w1.heap.size ≤ x11.heap.size := (KN11.out).size
        have BA := Lib.hid (BA.out.kp kx (fun e => e))
        have R7 := Lib.hid (R7.out.still kx)
        have hb6 : Box (x11.alloc (.cells #[.slice none 0 0, .slice none 0 0, .bool false, .int .i64 0, .string ⟨#[]⟩, .int .u64 0] 37)) x11.heap.size 37 #[.slice none 0 0, .slice none 0 0, .bool false, .int .i64 0, .string ⟨#[]⟩, .int .u64 0] := Box.new x11 37 #[.slice none 0 0, .slice none 0 0, .bool false, .int .i64 0, .string ⟨#[]⟩, .int .u64 0]
        obtain ⟨g5, hg8⟩ : ∃ g5, x11.heap.size = g5 := ⟨_, rfl⟩
        rw [hg8] at hb6
        try rw [hg8]
        have HGg5 := Lib.hid (show w1.heap.size ≤ g5 by omega)
        clear hg8 hge kx
        generalize (x11.alloc (.cells #[.slice none 0 0, .slice none 0 0, .bool false, .int .i64 0, .string ⟨#[]⟩, .int .u64 0] 37)) = x12 at *
        have BB := Lib.hid hb6
        have KN12 := Lib.hid ka
        clear hb6 ka
        refine hK.out _ _ (KN12.out) (fun hHeld33 => ?_)
        clear hK K
        try simp only [Act.put, List.setIfInBounds_toArray, List.set_cons_zero, List.set_cons_succ]
        refine rd 15 (h := fun K hK => ?_)
        rw [if_pos (by rfl)]
        refine wp_store_box 42 (.tmp 4) (.tmp 22) rfl g4 (mcs l1 u1) rfl rfl BA.out rfl info_rlog (mcs_one _ _) ?_
        intro x13 hb5 hk5
        have R7 := Lib.hid (R7.out.kp hk5 (fun q cs fr e1 e2 => by rcases e1 with e1 | e1 <;> exact type_off e1 BA.out (by decide) e2))
        have BB := Lib.hid (BB.out.kp hk5 (fun e => type_off BB.out BA.out (by decide) e))
        have KN13 := Lib.hid ((KN12.out).trans_new hk5 (fun q e => .inl (by have := HGg4.out; omega)))
        have BA := Lib.hid hb5
        clear hb5 hk5
        refine hK.out _ _ (KN13.out) (fun hHeld34 => ?_)
        clear hK K
        try simp only [Act.put]
        refine rd 16 (h := fun K hK => ?_)
        rw [if_pos (by rfl)]
        refine dwp_store_box 37 (.tmp 5) (.tmp 23) rfl g5 (rcs d1 va vb).toList rfl rfl BB.out rfl infoRef (rcs_one _ _ _ R7.out.c1.1 R7.out.c1.2) ?_
        intro x14 hb5 hk5
        have BA := Lib.hid (BA.out.kp hk5 (fun e => type_off BA.out BB.out (by decide) e))
        have R7 := Lib.hid (R7.out.kp hk5 (fun q cs fr e1 e2 => by rcases e1 with e1 | e1 <;> exact type_off e1 BB.out (by decide) e2))
        have KN14 := Lib.hid ((KN13.out).trans_new hk5 (fun q e => .inl (by have := HGg5.out; omega)))
        have BB := Lib.hid hb5
        clear hb5 hk5
        refine hK.out _ _ (KN14.out) (fun hHeld35 => ?_)
        clear hK K
        try simp only [Act.put]
        refine tk 17 (h := ?_)
        refine wpAnyH_done (by kernel_rfl) ?_ _
        go_wp2_with fail
        go_meet
        exact ⟨g4, g5, va, vb, rfl, rfl, rfl, BA.out, BB.out, R7.out, KN14.out⟩
      · go_simp
        have ka : Kp (fun _ => False) w1 (x10.alloc (.cells #[.slice none 0 0, .slice none 0 0, .bool false, .int .i64 0, .string ⟨#[]⟩, .int .u64 0] 37)) := (KN10.out).alloc (.cells #[.slice none 0 0, .slice none 0 0, .bool false, .int .i64 0, .string ⟨#[]⟩, .int .u64 0] 37)
        have kx : Kp (fun _ => False) x10 (x10.alloc (.cells #[.slice none 0 0, .slice none 0 0, .bool false, .int .i64 0, .string ⟨#[]⟩, .int .u64 0] 37)) := (Kp.refl (fun _ => False) x10).alloc (.cells #[.slice none 0 0, .slice none 0 0, .bool false, .int .i64 0, .string ⟨#[]⟩, .int .u64 0] 37)
        have hge : w1.heap.size ≤ x10.heap.size := (KN10.out).size
        have BA := Lib.hid (BA.out.kp kx (fun e => e))
        have hb6 : Box (x10.alloc (.cells #[.slice none 0 0, .slice none 0 0, .bool false, .int .i64 0, .string ⟨#[]⟩, .int .u64 0] 37)) x10.heap.size 37 #[.slice none 0 0, .slice none 0 0, .bool false, .int .i64 0, .string ⟨#[]⟩, .int .u64 0] := Box.new x10 37 #[.slice none 0 0, .slice none 0 0, .bool false, .int .i64 0, .string ⟨#[]⟩, .int .u64 0]
        obtain ⟨g5, hg8⟩ : ∃ g5, x10.heap.size = g5 := ⟨_, rfl⟩
        rw [hg8] at hb6
        try rw [hg8]
        have HGg5 := Lib.hid (show w1.heap.size ≤ g5 by omega)
        clear hg8 hge kx
        generalize (x10.alloc (.cells #[.slice none 0 0, .slice none 0 0, .bool false, .int .i64 0, .string ⟨#[]⟩, .int .u64 0] 37)) = x15 at *
        have BB := Lib.hid hb6
        have KN15 := Lib.hid ka
        clear hb6 ka
        refine hK.out _ _ (KN15.out) (fun hHeld36 => ?_)
        clear hK K
        try simp only [Act.put, List.setIfInBounds_toArray, List.set_cons_zero, List.set_cons_succ]
        refine rd 8 (h := fun K hK => ?_)
        go_simp
        refine (HRT.out _ (S1.out.rf.still KN15.out)).mono ?_
        rintro e x16 ⟨va, vb, rfl, r7, kc⟩
        have BA := Lib.hid (BA.out.kp kc (fun e => e))
        have BB := Lib.hid (BB.out.kp kc (fun e => e))
        have KN16 := Lib.hid ((KN15.out).trans kc)
        have R7 := Lib.hid (r7)
        clear r7
        clear kc
        go_wp2_with fail
        refine hK.out _ _ (KN16.out) (fun hHeld37 => ?_)
        clear hK K
        try simp only [Act.put, List.setIfInBounds_toArray, List.set_cons_zero, List.set_cons_succ]
        refine tk 9 (h := ?_)
        refine tk 10 (h := ?_)
        refine tk 11 (h := ?_)
        refine tk 12 (h := ?_)
        refine rd 15 (h := fun K hK => ?_)
        rw [if_pos (by rfl)]
        refine wp_store_box 42 (.tmp 4) (.tmp 22) rfl g4 (mcs l1 u1) rfl rfl BA.out rfl info_rlog (mcs_one _ _) ?_
        intro x17 hb5 hk5
        have BB := Lib.hid (BB.out.kp hk5 (fun e => type_off BB.out BA.out (by decide) e))
        have R7 := Lib.hid (R7.out.kp hk5 (fun q cs fr e1 e2 => by rcases e1 with e1 | e1 <;> exact type_off e1 BA.out (by decide) e2))
        have KN17 := Lib.hid ((KN16.out).trans_new hk5 (fun q e => .inl (by have := HGg4.out; omega)))
        have BA := Lib.hid hb5
        clear hb5 hk5
        refine hK.out _ _ (KN17.out) (fun hHeld38 => ?_)
        clear hK K
        try simp only [Act.put]
        refine rd 16 (h := fun K hK => ?_)
        rw [if_pos (by rfl)]
        refine dwp_store_box 37 (.tmp 5) (.tmp 23) rfl g5 (rcs d1 va vb).toList rfl rfl BB.out rfl infoRef (rcs_one _ _ _ R7.out.c1.1 R7.out.c1.2) ?_
        intro x18 hb5 hk5
        have BA := Lib.hid (BA.out.kp hk5 (fun e => type_off BA.out BB.out (by decide) e))
        have R7 := Lib.hid (R7.out.kp hk5 (fun q cs fr e1 e2 => by rcases e1 with e1 | e1 <;> exact type_off e1 BB.out (by decide) e2))
        have KN18 := Lib.hid ((KN17.out).trans_new hk5 (fun q e => .inl (by have := HGg5.out; omega)))
        have BB := Lib.hid hb5
        clear hb5 hk5
        refine hK.out _ _ (KN18.out) (fun hHeld39 => ?_)
        clear hK K
        try simp only [Act.put]
        refine tk 17 (h := ?_)
        refine wpAnyH_done (by kernel_rfl) ?_ _
        go_wp2_with fail
        go_meet
        exact ⟨g4, g5, va, vb, rfl, rfl, rfl, BA.out, BB.out, R7.out, KN18.out⟩
    · go_simp
      have ka : Kp (fun _ => False) w1 (w1.alloc (.cells #[.slice none 0 0, .slice none 0 0, .bool false, .int .i64 0, .string ⟨#[]⟩, .int .u64 0] 37)).drew := ((Kp.refl (fun _ => False) w1).alloc (.cells #[.slice none 0 0, .slice none 0 0, .bool false, .int .i64 0, .string ⟨#[]⟩, .int .u64 0] 37)).drew
      have kx : Kp (fun _ => False) w1 (w1.alloc (.cells #[.slice none 0 0, .slice none 0 0, .bool false, .int .i64 0, .string ⟨#[]⟩, .int .u64 0] 37)).drew := ((Kp.refl (fun _ => False) w1).alloc (.cells #[.slice none 0 0, .slice none 0 0, .bool false, .int .i64 0, .string ⟨#[]⟩, .int .u64 0] 37)).drew
      have hge : w1.heap.size ≤ w1.heap.size := Nat.le_refl _
      have hb6 : Box (w1.alloc (.cells #[.slice none 0 0, .slice none 0 0, .bool false, .int .i64 0, .string ⟨#[]⟩, .int .u64 0] 37)).drew w1.heap.size 37 #[.slice none 0 0, .slice none 0 0, .bool false, .int .i64 0, .string ⟨#[]⟩, .int .u64 0] := Box.new w1 37 #[.slice none 0 0, .slice none 0 0, .bool false, .int .i64 0, .string ⟨#[]⟩, .int .u64 0]
      obtain ⟨g5, hg8⟩ : ∃ g5, w1.heap.size = g5 := ⟨_, rfl⟩
      rw [hg8] at hb6
      try rw [hg8]
      have HGg5 := Lib.hid (show w1.heap.size ≤ g5 by omega)
      clear hg8 hge kx
      generalize (w1.alloc (.cells #[.slice none 0 0, .slice none 0 0, .bool false, .int .i64 0, .string ⟨#[]⟩, .int .u64 0] 37)).drew = x19 at *
      have BB := Lib.hid hb6
      have KN19 := Lib.hid ka
      clear hb6 ka
      refine hK.out _ _ (KN19.out) (fun hHeld40 => ?_)
      clear hK K
      try simp only [Act.put, List.setIfInBounds_toArray, List.set_cons_zero, List.set_cons_succ]
      refine wpAnyH_ready (rs := [8, 13]) (by kernel_rfl) (by simp) ?_
      refine (rdc 8 (h := fun K hK => ?_) (hs := rdc 13 (h := fun K hK => ?_) (hs := AllReadyH.nil)))
      · go_simp
        refine (HRT.out _ (S1.out.rf.still KN19.out)).mono ?_
        rintro e x20 ⟨va, vb, rfl, r7, kc⟩
        have BB := Lib.hid (BB.out.kp kc (fun e => e))
        have KN20 := Lib.hid ((KN19.out).trans kc)
        have R7 := Lib.hid (r7)
        clear r7
        clear kc
        go_wp2_with fail
        refine hK.out _ _ (KN20.out) (fun hHeld41 => ?_)
        clear hK K
        try simp only [Act.put, List.setIfInBounds_toArray, List.set_cons_zero, List.set_cons_succ]
        refine tk 9 (h := ?_)
        refine tk 10 (h := ?_)
        refine tk 11 (h := ?_)
        refine tk 12 (h := ?_)
        refine rd 13 (h := fun K hK => ?_)
        go_simp
        have ka : Kp (fun _ => False) w1 (x20.alloc (.cells #[.int .u64 0, .int .u64 0, .int .i64 0, .string ⟨#[]⟩, .int .i64 0, .int .u64 0, .int .i64 0, .bool false] 42)) := (KN20.out).alloc (.cells #[.int .u64 0, .int .u64 0, .int .i64 0, .string ⟨#[]⟩, .int .i64 0, .int .u64 0, .int .i64 0, .bool false] 42)
        have kx : Kp (fun _ => False) x20 (x20.alloc (.cells #[.int .u64 0, .int .u64 0, .int .i64 0, .string ⟨#[]⟩, .int .i64 0, .int .u64 0, .int .i64 0, .bool false] 42)) := (Kp.refl (fun _ => False) x20).alloc (.cells #[.int .u64 0, .int .u64 0, .int .i64 0, .string ⟨#[]⟩, .int .i64 0, .int .u64 0, .int .i64 0, .bool false] 42)
        have hge : w1.heap.size ≤ x20.heap.size := (KN20.out).size
        have BB := Lib.hid (BB.out.kp kx (fun e => e))
        have R7 := Lib.hid (R7.out.still kx)
        have hb6 : Box (x20.alloc (.cells #[.int .u64 0, .int .u64 0, .int .i64 0, .string ⟨#[]⟩, .int .i64 0, .int .u64 0, .int .i64 0, .bool false] 42)) x20.heap.size 42 #[.int .u64 0, .int .u64 0, .int .i64 0, .string ⟨#[]⟩, .int .i64 0, .int .u64 0, .int .i64 0, .bool false] := Box.new x20 42 #[.int .u64 0, .int .u64 0, .int .i64 0, .string ⟨#[]⟩, .int .i64 0, .int .u64 0, .int .i64 0, .bool false]
        obtain ⟨g4, hg8⟩ : ∃ g4, x20.heap.size = g4 := ⟨_, rfl⟩
        rw [hg8] at hb6
        try rw [hg8]
        have HGg4 := Lib.hid (show w1.heap.size ≤ g4 by omega)
        clear hg8 hge kx
        generalize (x20.alloc (.cells #[.int .u64 0, .int .u64 0, .int .i64 0, .string ⟨#[]⟩, .int .i64 0, .int .u64 0, .int .i64 0, .bool false] 42)) = x21 at *
        have BA := Lib.hid hb6
        have KN21 := Lib.hid ka
        clear hb6 ka
        refine hK.out _ _ (KN21.out) (fun hHeld42 => ?_)
        clear hK K
        try simp only [Act.put, List.setIfInBounds_toArray, List.set_cons_zero, List.set_cons_succ]
        refine rd 15 (h := fun K hK => ?_)
        rw [if_pos (by rfl)]
        refine wp_store_box 42 (.tmp 4) (.tmp 22) rfl g4 (mcs l1 u1) rfl rfl BA.out rfl info_rlog (mcs_one _ _) ?_
        intro x22 hb5 hk5
        have BB := Lib.hid (BB.out.kp hk5 (fun e => type_off BB.out BA.out (by decide) e))
        have R7 := Lib.hid (R7.out.kp hk5 (fun q cs fr e1 e2 => by rcases e1 with e1 | e1 <;> exact type_off e1 BA.out (by decide) e2))
        have KN22 := Lib.hid ((KN21.out).trans_new hk5 (fun q e => .inl (by have := HGg4.out; omega)))
        have BA := Lib.hid hb5
        clear hb5 hk5
        refine hK.out _ _ (KN22.out) (fun hHeld43 => ?_)
        clear hK K
        try simp only [Act.put]
        refine rd 16 (h := fun K hK => ?_)
        rw [if_pos (by rfl)]
        refine dwp_store_box 37 (.tmp 5) (.tmp 23) rfl g5 (rcs d1 va vb).toList rfl rfl BB.out rfl infoRef (rcs_one _ _ _ R7.out.c1.1 R7.out.c1.2) ?_
        intro x23 hb5 hk5
        have R7 := Lib.hid (R7.out.kp hk5 (fun q cs fr e1 e2 => by rcases e1 with e1 | e1 <;> exact type_off e1 BB.out (by decide) e2))
        have BA := Lib.hid (BA.out.kp hk5 (fun e => type_off BA.out BB.out (by decide) e))
        have KN23 := Lib.hid ((KN22.out).trans_new hk5 (fun q e => .inl (by have := HGg5.out; omega)))
        have BB := Lib.hid hb5
        clear hb5 hk5
        refine hK.out _ _ (KN23.out) (fun hHeld44 => ?_)
        clear hK K
        try simp only [Act.put]
        refine tk 17 (h := ?_)
        refine wpAnyH_done (by kernel_rfl) ?_ _
        go_wp2_with fail
        go_meet
        exact ⟨g4, g5, va, vb, rfl, rfl, rfl, BA.out, BB.out, R7.out, KN23.out⟩
      · go_simp
        have ka : Kp (fun _ => False) w1 (x19.alloc (.cells #[.int .u64 0, .int .u64 0, .int .i64 0, .string ⟨#[]⟩, .int .i64 0, .int .u64 0, .int .i64 0, .bool false] 42)) := (KN19.out).alloc (.cells #[.int .u64 0, .int .u64 0, .int .i64 0, .string ⟨#[]⟩, .int .i64 0, .int .u64 0, .int .i64 0, .bool false] 42)
        have kx : Kp (fun _ => False) x19 (x19.alloc (.cells #[.int .u64 0, .int .u64 0, .int .i64 0, .string ⟨#[]⟩, .int .i64 0, .int .u64 0, .int .i64 0, .bool false] 42)) := (Kp.refl (fun _ => False) x19).alloc (.cells #[.int .u64 0, .int .u64 0, .int .i64 0, .string ⟨#[]⟩, .int .i64 0, .int .u64 0, .int .i64 0, .bool false] 42)
        have hge : w1.heap.size ≤ x19.heap.size := (KN19.out).size
        have BB := Lib.hid (BB.out.kp kx (fun e => e))
        have hb6 : Box (x19.alloc (.cells #[.int .u64 0, .int .u64 0, .int .i64 0, .string ⟨#[]⟩, .int .i64 0, .int .u64 0, .int .i64 0, .bool false] 42)) x19.heap.size 42 #[.int .u64 0, .int .u64 0, .int .i64 0, .string ⟨#[]⟩, .int .i64 0, .int .u64 0, .int .i64 0, .bool false] := Box.new x19 42 #[.int .u64 0, .int .u64 0, .int .i64 0, .string ⟨#[]⟩, .int .i64 0, .int .u64 0, .int .i64 0, .bool false]
        obtain ⟨g4, hg8⟩ : ∃ g4, x19.heap.size = g4 := ⟨_, rfl⟩
        rw [hg8] at hb6
        try rw [hg8]
        have HGg4 := Lib.hid (show w1.heap.size ≤ g4 by omega)
        clear hg8 hge kx
        generalize (x19.alloc (.cells #[.int .u64 0, .int .u64 0, .int .i64 0, .string ⟨#[]⟩, .int .i64 0, .int .u64 0, .int .i64 0, .bool false] 42)) = x24 at *
        have BA := Lib.hid hb6
        have KN24 := Lib.hid ka
        clear hb6 ka
        refine hK.out _ _ (KN24.out) (fun hHeld45 => ?_)
        clear hK K
        try simp only [Act.put, List.setIfInBounds_toArray, List.set_cons_zero, List.set_cons_succ]
        refine rd 8 (h := fun K hK => ?_)
        go_simp
        refine (HRT.out _ (S1.out.rf.still KN24.out)).mono ?_
        rintro e x25 ⟨va, vb, rfl, r7, kc⟩
        have BB := Lib.hid (BB.out.kp kc (fun e => e))
        have BA := Lib.hid (BA.out.kp kc (fun e => e))
        have KN25 := Lib.hid ((KN24.out).trans kc)
        have R7 := Lib.hid (r7)
        clear r7
        clear kc
        go_wp2_with fail
        refine hK.out _ _ (KN25.out) (fun hHeld46 => ?_)
        clear hK K
        try simp only [Act.put, List.setIfInBounds_toArray, List.set_cons_zero, List.set_cons_succ]
        refine tk 9 (h := ?_)
        refine tk 10 (h := ?_)
        refine tk 11 (h := ?_)
        refine tk 12 (h := ?_)
        refine rd 15 (h := fun K hK => ?_)
        rw [if_pos (by rfl)]
        refine wp_store_box 42 (.tmp 4) (.tmp 22) rfl g4 (mcs l1 u1) rfl rfl BA.out rfl info_rlog (mcs_one _ _) ?_
        intro x26 hb5 hk5
        have BB := Lib.hid (BB.out.kp hk5 (fun e => type_off BB.out BA.out (by decide) e))
        have R7 := Lib.hid (R7.out.kp hk5 (fun q cs fr e1 e2 => by rcases e1 with e1 | e1 <;> exact type_off e1 BA.out (by decide) e2))
        have KN26 := Lib.hid ((KN25.out).trans_new hk5 (fun q e => .inl (by have := HGg4.out; omega)))
        have BA := Lib.hid hb5
        clear hb5 hk5
        refine hK.out _ _ (KN26.out) (fun hHeld47 => ?_)
        clear hK K
        try simp only [Act.put]
        refine rd 16 (h := fun K hK => ?_)
        rw [if_pos (by rfl)]
        refine dwp_store_box 37 (.tmp 5) (.tmp 23) rfl g5 (rcs d1 va vb).toList rfl rfl BB.out rfl infoRef (rcs_one _ _ _ R7.out.c1.1 R7.out.c1.2) ?_
        intro x27 hb5 hk5
        have BA := Lib.hid (BA.out.kp hk5 (fun e => type_off BA.out BB.out (by decide) e))
        have R7 := Lib.hid (R7.out.kp hk5 (fun q cs fr e1 e2 => by rcases e1 with e1 | e1 <;> exact type_off e1 BB.out (by decide) e2))
        have KN27 := Lib.hid ((KN26.out).trans_new hk5 (fun q e => .inl (by have := HGg5.out; omega)))
        have BB := Lib.hid hb5
        clear hb5 hk5
        refine hK.out _ _ (KN27.out) (fun hHeld48 => ?_)
        clear hK K
        try simp only [Act.put]
        refine tk 17 (h := ?_)
        refine wpAnyH_done (by kernel_rfl) ?_ _
        go_wp2_with fail
        go_meet
        exact ⟨g4, g5, va, vb, rfl, rfl, rfl, BA.out, BB.out, R7.out, KN27.out⟩
  case rest =>
    obtain ⟨g4, g5, va, vb, rfl, rfl, rfl, ba, bb, r7, ky⟩ := hcut
    obtain ⟨w2, ew, r7⟩ : ∃ w2, w2 = _ ∧ Rf w2 va vb d1 := ⟨_, rfl, r7⟩
    subst ew
    have BA := Lib.hid ba
    have BB := Lib.hid bb
    have R7 := Lib.hid r7
    have S2 := Lib.hid (S1.out.still ky)
    have G2 := Lib.hid (G1.out.still ky)
    clear ba bb r7 ky S1 G1 DR1
    go_upto_region 4 with (first | (refine wpList_load_mid rfl 42 (.tmp 4) rfl g4 0 rfl (mcs l1 u1) _ (Box.range' (L := (mcs l1 u1)) BA.out) Tryz.underlying42 rfl info_rlog ?_) | (refine wpList_store_part rfl 42 (.tmp 28) (.tmp 26) rfl gs (.pointer (some ⟨b, 0, none⟩) :: (rcs d vo vw).toList ++ [.pointer (some ⟨g, 0, none⟩)]) (mcs l ((l.h.n : Int) - l.left)) (mcs l1 u1) [.bool true] rfl rfl S2.out.box rfl info_rlog (mcs_one _ _) ?_; intro w3 hb3 hk3) | fail)
    have S3 := Lib.hid (S2.out.told (ms' := (mcs l1 u1)) hb3 rfl S2.out.rf hk3)
    have G3 := Lib.hid (G2.out.told S2.out.box hk3)
    have BB3 := Lib.hid (BB.out.kp hk3 (fun e => type_off BB.out S2.out.box (by decide) e))
    have R3 := Lib.hid (R7.out.kp hk3 (fun q cs fr e1 e2 => by rcases e1 with e1 | e1 <;> exact type_off e1 S2.out.box (by decide) e2))
    clear hb3 hk3 S2 G2 BB R7 BA
    go_upto_region 5 with (first | (refine wpList_load_mid rfl 37 (.tmp 5) rfl g5 0 rfl (rcs d1 va vb).toList _ (Box.range' (L := (rcs d1 va vb).toList) BB3.out) Tryz.underlying37 rfl infoRef ?_) | (refine wpList_store_part rfl 37 (.tmp 32) (.tmp 30) rfl gs [.pointer (some ⟨b, 0, none⟩)] (rcs d vo vw).toList (rcs d1 va vb).toList (.pointer (some ⟨g, 0, none⟩) :: (mcs l1 u1) ++ [.bool true]) rfl rfl S3.out.box rfl infoRef (rcs_one _ _ _ R3.out.c1.1 R3.out.c1.2) ?_; intro w4 hb4 hk4) | fail)
    have S4 := Lib.hid (S3.out.told hb4 rfl R3.out hk4)
    have G4 := Lib.hid (G3.out.told S3.out.box hk4)
    clear hb4 hk4 S3 G3 R3 BB3
    go_wp2_with fail
    go_ret
    exact ⟨rfl, va, vb, S4.out, G4.out⟩
end Go.Proofs.YtfcljcikajaedaaGreatDoor

/- A log is opened, in both ways: they answer alike. Conditions: the disk's own, two sectors at least; its numbers are small. -/
namespace Go.Proofs.YtfcljcikajaedaaGreatDoor
open Go.RowKit Go.Maps

theorem own_base0 {w : World} {B : Nat} {e : TypeId} {size n : Nat} {v : Value} {xs : List Value} (h : w.ownsRow B e size v n xs) : w.ownsRow 0 e size v n xs := own_base' h (Nat.zero_le _)
theorem strs_get6 {u : List (List UInt8)} {n k : Nat} (hn : u.length = n) (hk : k < n) : ∃ s : ByteArray, (strs u)[k]? = some (.string s) := by
  have hl : k < u.length := by omega
  exact ⟨⟨u[k].toArray⟩, by simp [strs, hl]⟩
theorem own_max {w : World} {B : Nat} {e : TypeId} {size n : Nat} {v : Value} {xs : List Value} (h : w.ownsRow B e size v n xs) : n ≤ maxLen := by
  rcases h.2 with ⟨_, h2⟩ | ⟨g, cap, cur, _, _, _, h1, h2, _⟩
  · rw [h2]; exact Nat.zero_le _
  · exact Nat.le_trans h1 h2
/-- Open in the document's own words, as the program's. -/
theorem ropen_all_none {w : World} {vo vw : Value} {d : Dm} (h0 : Rf w vo vw d) (ok : d.ok) (h2 : 2 ≤ d.on.length) {Bd : Nat} (hg : Good Bd d) {c : Int} (ho : d.openS = (none, c)) :
    (c = 4 ∨ c = 12) ∧ Calls Tryz.prog 55 #[.agg (rcs d vo vw)] w fun e w' => ∃ A2 c2, e = .returned (.tuple #[.agg (mcs ⟨⟨0, 0, 0, []⟩, 0, 0, 0, false⟩ 0).toArray, .slice A2 0 c2, .int .i64 c]) ∧ w'.ownsRow w.heap.size 9 1 (.slice A2 0 c2) 0 (strs []) ∧ Kp (fun _ => False) w w' := by
  obtain ⟨hh1, hh2⟩ := hg.heads ok
  have hro := hg.open ok
  unfold Dm.openS at ho
  rcases hpw : d.power with _ | _
  · rw [hpw] at ho
    injection ho with _ ho
    have ho : (4 : Int) = c := ho
    subst ho
    refine ⟨.inl rfl, (ropen_dead h0 ok hpw).mono ?_⟩
    rintro e w' ⟨rfl, hk⟩
    exact ⟨none, 0, rfl, World.ownsRow_nil _ _ _ _, hk⟩
  · rw [hpw] at ho
    have key : d.ropen = none ∧ c = 12 := by
      rw [hro]
      rcases hd : d.heads with _ | ⟨x, a⟩
      · rw [hd] at ho
        injection ho with _ ho
        exact ⟨rfl, ho.symm⟩
      · rw [hd] at ho
        dsimp only at ho ⊢
        by_cases hc : 2 + x.n ≤ d.on.length
        · rw [if_pos hc] at ho; cases ho
        · rw [if_neg hc] at ho ⊢
          injection ho with _ ho
          exact ⟨rfl, ho.symm⟩
    obtain ⟨k1, rfl⟩ := key
    refine ⟨.inr rfl, (ropen_none h0 ok h2 hpw k1 (fun x a hx => by
      rw [hh1] at hx
      have := (hh2 x a hx).1.hi
      omega)).mono ?_⟩
    rintro e w' ⟨rfl, hk⟩
    exact ⟨none, 0, rfl, World.ownsRow_nil _ _ _ _, hk⟩
theorem ropen_all_some {w : World} {vo vw : Value} {d : Dm} (h0 : Rf w vo vw d) (ok : d.ok) {Bd : Nat} (hB : Bd + 70000 < 18446744073709551616) (hg : Good Bd d) {l : Lm} {u : List (List UInt8)} {c : Int} (ho : d.openS = (some (l, u), c)) :
    (c = 0 ∧ l.left = 0 ∧ Lk Bd d l) ∧ Calls Tryz.prog 55 #[.agg (rcs d vo vw)] w fun e w' => ∃ A2 c2, e = .returned (.tuple #[.agg (mcs l l.h.n).toArray, .slice A2 u.length c2, .int .i64 0]) ∧ w'.ownsRow w.heap.size 9 1 (.slice A2 u.length c2) u.length (strs u) ∧ Kp (fun _ => False) w w' := by
  obtain ⟨hh1, hh2⟩ := hg.heads ok
  have hro := hg.open ok
  unfold Dm.openS at ho
  rcases hpw : d.power with _ | _
  · rw [hpw] at ho; cases ho
  · rw [hpw] at ho
    rcases hd : d.heads with _ | ⟨x, a⟩
    · rw [hd] at ho; cases ho
    · rw [hd] at ho hro
      dsimp only at ho hro
      by_cases hc : 2 + x.n ≤ d.on.length
      · rw [if_pos hc] at hro
        have ho : (if 2 + x.n ≤ d.on.length then (some ((⟨x, a, nextF d.nowAt x.n x.f, 0, false⟩ : Lm), textsF d.nowAt x.n x.f), (0 : Int)) else (none, 12)) = (some (l, u), c) := ho
        rw [if_pos hc] at ho
        injection ho with ho1 ho2
        injection ho1 with ho1
        injection ho1 with e1 e2
        subst e1; subst e2; subst ho2
        refine ⟨⟨rfl, rfl, hg.opened ok (by omega) hd hc⟩, (ropen_some h0 ok hpw hro (by have := (hh2 x a hd).2.2.1; omega)).mono ?_⟩
        rintro e w' ⟨v, rfl, ho, hk⟩
        obtain ⟨A2, c2, rfl⟩ := own_shape3 ho
        exact ⟨A2, c2, rfl, ho, hk⟩
      · have ho : (if 2 + x.n ≤ d.on.length then (some ((⟨x, a, nextF d.nowAt x.n x.f, 0, false⟩ : Lm), textsF d.nowAt x.n x.f), (0 : Int)) else (none, 12)) = (some (l, u), c) := ho
        rw [if_neg hc] at ho; cases ho
set_option maxRecDepth 100000 in
set_option maxHeartbeats 8000000 in
theorem opens_none {B : Nat} {w W : World} {gs b : Nat} {d : Dm} {vo vw pl : Value} {ms : List Value} {is : Bool} (h : Ks B w gs b d d vo vw pl ms is W) (ht : Tbl W) (hBw : B = w.heap.size) (_htw : Tbl w) (_hw : d.wait.length + 1 < 1073741824) (h2 : 2 ≤ d.on.length) {Bd : Nat} (hB : Bd + 70000 < 18446744073709551616) (hgd : Good Bd d) (trim : Bool) {c : Int} (ho : d.openS = (none, c)) :
    Calls Tryz.prog 26 #[.pointer (some ⟨gs, 0, none⟩), .bool trim] W fun e W' => e = .returned (.bool true) ∧ Ks B w gs b d d vo vw (.pointer none) (mcs ⟨⟨0, 0, 0, []⟩, 0, 0, 0, false⟩ 0) false W' := by
  have ok := h.dk.ok
  have hop := open_any h.dk ht (fun x a hx => by have := (((hgd.heads ok).2) x a hx).2.2.1; omega)
  rw [ho] at hop
  have HOP := Lib.hid (show Calls Tryz.prog 11 #[.pointer (some ⟨b, 0, none⟩)] W fun e w' => e = .returned (.tuple #[.pointer none, .slice none 0 0, .int .i64 c]) ∧ Kp (fun _ => False) W w' from hop)
  have HRO := Lib.hid (fun (v : World) (hh : Rf v vo vw d) => (ropen_all_none hh ok h2 hgd ho).2)
  have hc0 := (ropen_all_none h.rf ok h2 hgd ho).1
  have cc : (c != 0) = true := by simp; omega
  have cc2 : (c == 0) = false := by simp; omega
  have HBW := Lib.hid hBw
  obtain ⟨u, hu⟩ : ∃ u : List (List UInt8), u = [] := ⟨_, rfl⟩
  obtain ⟨n, hn⟩ : ∃ n, n = (0 : Nat) := ⟨_, rfl⟩
  have HN := Lib.hid (show u.length = n by rw [hu, hn]; rfl)
  rw [← hu, ← hn] at HRO
  have S0 := Lib.hid h
  obtain ⟨y0, y7, y16⟩ := h.cells
  clear hop h ht _hw h2 hB hgd ok ho hc0 hBw _htw
  go_enter Tryz.func26, Tryz.ntmps26
  go_wp2_with fail
  refine HOP.out.mono ?_
  rintro e w1 ⟨rfl, hk1⟩
  rw [← hn]
  have S1 := Lib.hid (S0.out.still hk1)
  have O1 := Lib.hid (show w1.ownsRow 0 9 1 (.slice none n 0) n (strs u) by rw [hu, hn]; exact World.ownsRow_nil _ _ _ _)
  clear hk1 y0 y7 y16 S0 HOP hu
  go_wp2_with (first | (refine wpList_load_mid rfl 37 (.tmp 24) rfl gs 1 rfl (rcs d vo vw).toList _ S1.out.dbox Tryz.underlying37 rfl infoRef ?_) | fail)
  refine (HRO.out _ S1.out.rf).mono ?_
  rintro e wa ⟨A2, c2, rfl, r7, kc⟩
  obtain ⟨g8, hg8⟩ : ∃ g8, wa.heap.size = g8 := ⟨_, rfl⟩
  have BN := Lib.hid (show Box (wa.alloc (.cells #[.int .u64 0, .int .u64 0, .int .i64 0, .string ⟨#[]⟩, .int .i64 0, .int .u64 0, .int .i64 0, .bool false] 42)) g8 42 #[.int .u64 0, .int .u64 0, .int .i64 0, .string ⟨#[]⟩, .int .i64 0, .int .u64 0, .int .i64 0, .bool false] by rw [← hg8]; exact Box.new wa 42 #[.int .u64 0, .int .u64 0, .int .i64 0, .string ⟨#[]⟩, .int .i64 0, .int .u64 0, .int .i64 0, .bool false])
  have KC := Lib.hid (kc.alloc (.cells #[.int .u64 0, .int .u64 0, .int .i64 0, .string ⟨#[]⟩, .int .i64 0, .int .u64 0, .int .i64 0, .bool false] 42))
  have R7 := Lib.hid (down_kp r7 ((Kp.refl (fun _ => False) wa).alloc (.cells #[.int .u64 0, .int .u64 0, .int .i64 0, .string ⟨#[]⟩, .int .i64 0, .int .u64 0, .int .i64 0, .bool false] 42)) (fun _ _ e => e))
  have HGE := Lib.hid (show w1.heap.size ≤ g8 by have := kc.size; omega)
  have HG8 := Lib.hid hg8
  clear kc r7 hg8
  go_upto_region 3 with (first | (try rw [HG8.out]); (refine wpList_store_box rfl 42 (.tmp 8) (.tmp 27) rfl g8 (mcs ⟨⟨0, 0, 0, []⟩, 0, 0, 0, false⟩ 0) rfl rfl BN.out rfl info_rlog (mcs_one _ _) ?_; intro w2 hb8 hk) | fail)
  have ky : Kp (fun _ => False) w1 w2 := KC.out.trans_new hk (fun q e => .inl (by have := HGE.out; omega))
  have BA := Lib.hid hb8
  have hnm : n ≤ maxLen := own_max O1.out
  unfold maxLen at hnm
  have R1 := Lib.hid (RdR.of_own (down_kp O1.out ky (fun _ _ e => e)))
  have R2 := Lib.hid (RdR.of_own (down_kp R7.out hk (fun q hq e => by obtain ⟨cur, hc⟩ := own_block R7.out hq; exact type_off hc BN.out (by decide) e)))
  have S2 := Lib.hid (S1.out.still ky)
  skip
  clear hb8 hk ky S1 O1 R7 BN KC
  have HC9 := Lib.hid (show True from trivial)
  go_wp2_with fail
  go_loopw [11] (fun s11 wr => ∃ k : Nat, k ≤ n ∧ s11 = .int .i64 k ∧ Kp (fun _ => False) w2 wr) (fun s11 _ => n - (intOf s11).toNat)
  case atStart => exact ⟨0, Nat.zero_le _, rfl, Kp.refl _ w2⟩
  case round =>
    obtain ⟨k, hkm, rfl, hkr⟩ := hrel
    have KR := Lib.hid hkr
    have BA := Lib.hid (BA.out.kp hkr (fun e => e))
    have R1 := Lib.hid (R1.out.kp hkr (fun _ _ _ _ e => e))
    have R2 := Lib.hid (R2.out.kp hkr (fun _ _ _ _ e => e))
    have S2 := Lib.hid (S2.out.still hkr)
    skip
    clear hkr
    by_cases hlt : k < n
    · exfalso; omega
    · obtain ⟨yq0, yq7, yq16⟩ := S2.out.cells
      have f7 := S2.out.box.free 7
      go_upto_region 11 with fail
      have S3 := Lib.hid (S2.out.setL (.pointer none))
      skip
      have BA := Lib.hid (BA.out.kp ((Kp.refl (fun k => k = gs) wr).setCell (p := ⟨gs, 7, none⟩) (.inr rfl) (.pointer none)) (fun e => type_off BA.out S2.out.box (by decide) e))
      generalize wr.setCell ⟨gs, 7, none⟩ (.pointer none) = w3 at *
      clear yq0 yq7 yq16 f7 R1 R2
      go_upto_region 12 with (first | (refine wpList_load_mid rfl 42 (.tmp 8) rfl g8 0 rfl (mcs ⟨⟨0, 0, 0, []⟩, 0, 0, 0, false⟩ 0) _ (Box.range' (L := (mcs ⟨⟨0, 0, 0, []⟩, 0, 0, 0, false⟩ 0)) BA.out) Tryz.underlying42 rfl info_rlog ?_) | (refine wpList_store_part rfl 42 (.tmp 69) (.tmp 67) rfl gs (.pointer (some ⟨b, 0, none⟩) :: (rcs d vo vw).toList ++ [(.pointer none)]) ms (mcs ⟨⟨0, 0, 0, []⟩, 0, 0, 0, false⟩ 0) [.bool is] rfl rfl S3.out.box S3.out.ml info_rlog (mcs_one _ _) ?_; intro w4 hb3 hk3) | fail)
      have S4 := Lib.hid (S3.out.told (ms' := (mcs ⟨⟨0, 0, 0, []⟩, 0, 0, 0, false⟩ 0)) hb3 rfl S3.out.rf hk3)
      skip
      clear hb3 hk3
      obtain ⟨yq0, yq7, yq16⟩ := S4.out.cells
      have f16 := S4.out.box.free 16
      go_upto_region 13 with fail
      have S5 := Lib.hid (S4.out.setI false)
      skip
      generalize w4.setCell ⟨gs, 16, none⟩ (.bool false) = w5 at *
      clear yq0 yq7 yq16 f16
      obtain ⟨yq0, yq7, yq16⟩ := S5.out.cells
      go_wp2_with fail
      go_ret
      exact ⟨rfl, S5.out⟩
set_option maxRecDepth 100000 in
set_option maxHeartbeats 8000000 in
theorem opens_some {B : Nat} {w W : World} {gs b : Nat} {d : Dm} {vo vw pl : Value} {ms : List Value} {is : Bool} (h : Ks B w gs b d d vo vw pl ms is W) (ht : Tbl W) (hBw : B = w.heap.size) (htw : Tbl w) (hw : d.wait.length + 1 < 1073741824) (_h2 : 2 ≤ d.on.length) {Bd : Nat} (hB : Bd + 70000 < 18446744073709551616) (hgd : Good Bd d) (trim : Bool) {l : Lm} {u : List (List UInt8)} {c : Int} (ho : d.openS = (some (l, u), c)) :
    Calls Tryz.prog 26 #[.pointer (some ⟨gs, 0, none⟩), .bool trim] W fun e W' => e = .returned (.bool true) ∧ ∃ (g : Nat) (vo' vw' : Value), Ks B w gs b (if trim then (l.trimS d).2.1 else d) (if trim then (l.trimS d).2.1 else d) vo' vw' (.pointer (some ⟨g, 0, none⟩)) (if trim then mcs (l.trimS d).1 (((l.trimS d).1.h.n : Int) - (l.trimS d).1.left) else (mcs l l.h.n)) true W' ∧ Kg B g b (if trim then (l.trimS d).1 else l) W' := by
  have ok := h.dk.ok
  obtain ⟨⟨rfl, hl0, hlk⟩, _⟩ := ropen_all_some h.rf ok hB hgd ho
  have hop := open_any h.dk ht (fun x a hx => by have := (((hgd.heads ok).2) x a hx).2.2.1; omega)
  rw [ho] at hop
  have HOP := Lib.hid (show Calls Tryz.prog 11 #[.pointer (some ⟨b, 0, none⟩)] W fun e w' => ∃ g v, e = .returned (.tuple #[.pointer (some ⟨g, 0, none⟩), v, .int .i64 0]) ∧ Box w' g 93 (lcs b l) ∧ w'.ownsRow W.heap.size 9 1 v u.length (strs u) ∧ W.heap.size ≤ g ∧ Kp (fun _ => False) W w' from hop)
  have HRO := Lib.hid (fun (v : World) (hh : Rf v vo vw d) => (ropen_all_some hh ok hB hgd ho).2)
  have HTR := Lib.hid (fun (g : Nat) (v : World) (hs : Ks B w gs b d d vo vw (.pointer (some ⟨g, 0, none⟩)) (mcs l l.h.n) true v) (hg : Kg B g b l v) => trims_any (by rw [hl0, show ((l.h.n : Int) - ((0 : Nat) : Int)) = l.h.n by simp]; exact hs) hg (hs.tbl htw hBw) hw (by omega) hgd hlk)
  obtain ⟨n, hn⟩ : ∃ n, u.length = n := ⟨_, rfl⟩
  have HN := Lib.hid hn
  rw [hn] at HRO HOP
  have S0 := Lib.hid h
  obtain ⟨y0, y7, y16⟩ := h.cells
  clear hop h hw _h2 hB hgd ok ho hn hlk hBw htw ht
  go_enter Tryz.func26, Tryz.ntmps26
  go_wp2_with fail
  refine HOP.out.mono ?_
  rintro e w1 ⟨g, v, rfl, hb1, ho1, hge, hk1⟩
  obtain ⟨A1, c1, rfl⟩ := own_shape3 ho1
  have S1 := Lib.hid (S0.out.still hk1)
  have G1 := Lib.hid (Kg.mk (l := l) hb1 (Nat.le_trans (show B ≤ W.heap.size by have := S0.out.box.lt; have := S0.out.sB; omega) hge))
  have O1 := Lib.hid (own_base0 ho1)
  clear hk1 hb1 ho1 hge y0 y7 y16 S0 HOP
  go_wp2_with (first | (refine wpList_load_mid rfl 37 (.tmp 24) rfl gs 1 rfl (rcs d vo vw).toList _ S1.out.dbox Tryz.underlying37 rfl infoRef ?_) | fail)
  refine (HRO.out _ S1.out.rf).mono ?_
  rintro e wa ⟨A2, c2, rfl, r7, kc⟩
  obtain ⟨g8, hg8⟩ : ∃ g8, wa.heap.size = g8 := ⟨_, rfl⟩
  have BN := Lib.hid (show Box (wa.alloc (.cells #[.int .u64 0, .int .u64 0, .int .i64 0, .string ⟨#[]⟩, .int .i64 0, .int .u64 0, .int .i64 0, .bool false] 42)) g8 42 #[.int .u64 0, .int .u64 0, .int .i64 0, .string ⟨#[]⟩, .int .i64 0, .int .u64 0, .int .i64 0, .bool false] by rw [← hg8]; exact Box.new wa 42 #[.int .u64 0, .int .u64 0, .int .i64 0, .string ⟨#[]⟩, .int .i64 0, .int .u64 0, .int .i64 0, .bool false])
  have KC := Lib.hid (kc.alloc (.cells #[.int .u64 0, .int .u64 0, .int .i64 0, .string ⟨#[]⟩, .int .i64 0, .int .u64 0, .int .i64 0, .bool false] 42))
  have R7 := Lib.hid (down_kp r7 ((Kp.refl (fun _ => False) wa).alloc (.cells #[.int .u64 0, .int .u64 0, .int .i64 0, .string ⟨#[]⟩, .int .i64 0, .int .u64 0, .int .i64 0, .bool false] 42)) (fun _ _ e => e))
  have HGE := Lib.hid (show w1.heap.size ≤ g8 by have := kc.size; omega)
  have HG8 := Lib.hid hg8
  clear kc r7 hg8
  go_upto_region 3 with (first | (try rw [HG8.out]); (refine wpList_store_box rfl 42 (.tmp 8) (.tmp 27) rfl g8 (mcs l l.h.n) rfl rfl BN.out rfl info_rlog (mcs_one _ _) ?_; intro w2 hb8 hk) | fail)
  have ky : Kp (fun _ => False) w1 w2 := KC.out.trans_new hk (fun q e => .inl (by have := HGE.out; omega))
  have BA := Lib.hid hb8
  have hnm : n ≤ maxLen := own_max O1.out
  unfold maxLen at hnm
  have R1 := Lib.hid (RdR.of_own (down_kp O1.out ky (fun _ _ e => e)))
  have R2 := Lib.hid (RdR.of_own (down_kp R7.out hk (fun q hq e => by obtain ⟨cur, hc⟩ := own_block R7.out hq; exact type_off hc BN.out (by decide) e)))
  have S2 := Lib.hid (S1.out.still ky)
  have G2 := Lib.hid (G1.out.still ky)
  clear hb8 hk ky S1 O1 R7 BN KC G1
  have HC9 := Lib.hid (show True from trivial)
  go_wp2_with fail
  go_loopw [11] (fun s11 wr => ∃ k : Nat, k ≤ n ∧ s11 = .int .i64 k ∧ Kp (fun _ => False) w2 wr) (fun s11 _ => n - (intOf s11).toNat)
  case atStart => exact ⟨0, Nat.zero_le _, rfl, Kp.refl _ w2⟩
  case round =>
    obtain ⟨k, hkm, rfl, hkr⟩ := hrel
    have KR := Lib.hid hkr
    have BA := Lib.hid (BA.out.kp hkr (fun e => e))
    have R1 := Lib.hid (R1.out.kp hkr (fun _ _ _ _ e => e))
    have R2 := Lib.hid (R2.out.kp hkr (fun _ _ _ _ e => e))
    have S2 := Lib.hid (S2.out.still hkr)
    have G2 := Lib.hid (G2.out.still hkr)
    clear hkr
    by_cases hlt : k < n
    · obtain ⟨b1, cap1, e1, _, hc1⟩ := R1.out.cell (by omega)
      obtain ⟨b2, cap2, e2, _, hc2⟩ := R2.out.cell (by omega)
      injection e1 with e1 _ e1'
      injection e2 with e2 _ e2'
      subst e1 e1' e2 e2'
      obtain ⟨s, hs⟩ : ∃ s, (strs u)[k]? = some (.string s) := strs_get6 HN.out hlt
      have y1 := hc1 k _ hs
      have y2 := hc2 k _ hs
      clear hc1 hc2
      go_upto_region 8 with fail
      refine wp_region_held_drew (S := fun v => Kp (fun _ => False) wr v) (by kernel_rfl) ((Kp.refl (fun _ => False) wr).drew) (fun hHeld => ?_)
      refine tk 0 (h := ?_)
      refine tk 1 (h := ?_)
      refine tk 2 (h := ?_)
      refine tk 3 (v := ?_) (hy := ?_) (h := ?_)
      rotate_left
      · intro v hSw
        have z1 : v.cell? ⟨b1, k, none⟩ = some (.string s) := (hSw.cell (p := ⟨b1, k, none⟩) (World.block_lt_of_cell? wr ⟨b1, k, none⟩ y1) (fun e => e)).trans y1
        try dsimp only at hSw
        go_simp
        with_reducible rfl
      refine tk 4 (h := ?_)
      refine tk 5 (h := ?_)
      refine tk 6 (h := ?_)
      refine tk 7 (v := ?_) (hy := ?_) (h := ?_)
      rotate_left
      · intro v hSw
        have z2 : v.cell? ⟨b2, k, none⟩ = some (.string s) := (hSw.cell (p := ⟨b2, k, none⟩) (World.block_lt_of_cell? wr ⟨b2, k, none⟩ y2) (fun e => e)).trans y2
        try dsimp only at hSw
        go_simp
        with_reducible rfl
      refine tk 8 (h := ?_)
      refine wpAnyH_done (by kernel_rfl) ?_ _
      go_wp2_with fail
      go_roundw
      case rel => exact ⟨k + 1, by omega, by go_num, KR.out.trans (Kp.refl (fun _ => False) wr).drew⟩
      case measure => simp [intOf]; omega
    · obtain ⟨yq0, yq7, yq16⟩ := S2.out.cells
      have f7 := S2.out.box.free 7
      go_upto_region 11 with fail
      have S3 := Lib.hid (S2.out.setL (.pointer (some ⟨g, 0, none⟩)))
      have G3 := Lib.hid (G2.out.cell S2.out.box 7 (.pointer (some ⟨g, 0, none⟩)))
      have BA := Lib.hid (BA.out.kp ((Kp.refl (fun k => k = gs) wr).setCell (p := ⟨gs, 7, none⟩) (.inr rfl) (.pointer (some ⟨g, 0, none⟩))) (fun e => type_off BA.out S2.out.box (by decide) e))
      generalize wr.setCell ⟨gs, 7, none⟩ (.pointer (some ⟨g, 0, none⟩)) = w3 at *
      clear yq0 yq7 yq16 f7 R1 R2
      go_upto_region 12 with (first | (refine wpList_load_mid rfl 42 (.tmp 8) rfl g8 0 rfl (mcs l l.h.n) _ (Box.range' (L := (mcs l l.h.n)) BA.out) Tryz.underlying42 rfl info_rlog ?_) | (refine wpList_store_part rfl 42 (.tmp 69) (.tmp 67) rfl gs (.pointer (some ⟨b, 0, none⟩) :: (rcs d vo vw).toList ++ [(.pointer (some ⟨g, 0, none⟩))]) ms (mcs l l.h.n) [.bool is] rfl rfl S3.out.box S3.out.ml info_rlog (mcs_one _ _) ?_; intro w4 hb3 hk3) | fail)
      have S4 := Lib.hid (S3.out.told (ms' := (mcs l l.h.n)) hb3 rfl S3.out.rf hk3)
      have G4 := Lib.hid (G3.out.told S3.out.box hk3)
      clear hb3 hk3
      obtain ⟨yq0, yq7, yq16⟩ := S4.out.cells
      have f16 := S4.out.box.free 16
      go_upto_region 13 with fail
      have S5 := Lib.hid (S4.out.setI true)
      have G5 := Lib.hid (G4.out.cell S4.out.box 16 (.bool true))
      generalize w4.setCell ⟨gs, 16, none⟩ (.bool true) = w5 at *
      clear yq0 yq7 yq16 f16
      obtain ⟨yq0, yq7, yq16⟩ := S5.out.cells
      rcases trim with _ | _
      · go_wp2_with fail
        go_ret
        refine ⟨rfl, g, ?_⟩
        first | exact ⟨vo, vw, S5.out, G5.out⟩ | exact ⟨⟨vo, vw, S5.out⟩, G5.out⟩
      · go_wp2_with fail
        refine (HTR.out g w5 S5.out G5.out).mono ?_
        rintro e w6 ⟨rfl, va, vb, s6, g6⟩
        have S6 := Lib.hid s6
        have G6 := Lib.hid g6
        clear s6 g6
        go_wp2_with fail
        go_ret
        refine ⟨rfl, g, ?_⟩
        first | exact ⟨va, vb, S6.out, G6.out⟩ | exact ⟨⟨va, vb, S6.out⟩, G6.out⟩
end Go.Proofs.YtfcljcikajaedaaGreatDoor

/- What an act of the law leaves behind, in both ways: the state in memory, and how far its numbers go. No condition. -/
namespace Go.Proofs.YtfcljcikajaedaaGreatDoor
open Go.RowKit Go.Maps

theorem wp_store_part {op : Oper} {a : Act} {w : World} {K : Act → World → Prop} {Q : Exit → Act → World → Prop} (ty : TypeId) (x y : Operand) (ho : op.op = .store ty x y)
    (g : Nat) (pre old cs post : List Value) (hx : a.eval x = .pointer (some ⟨g, pre.length, none⟩)) (hy : a.eval y = .agg cs.toArray) {t : TypeId} (hb : Box w g t (pre ++ old ++ post).toArray) (hl : old.length = cs.length)
    (hi : (Tryz.prog.info? ty).map (·.size) = some cs.length) (h1 : ∀ v ∈ cs, v.oneCell' = true)
    (k : ∀ W, Box W g t (pre ++ cs ++ post).toArray → Kp (fun k => k = g) w W → K (a.put op.dst undef) W) : op.wp Tryz.prog a w K Q := by
  have hth := hb.there
  refine wp_store_mid ty x y ho g pre.length cs.toArray hx hy (fun j hj => ?_) (by simpa using hi) (all_oneCell_toArray h1) ?_
  · have := hth (pre.length + j) (by simp at hj ⊢; omega)
    rwa [Nat.zero_add] at this
  · refine k _ ?_ (Kp.setCells _ pre.length w (Kp.refl _ w) (.inr rfl))
    have := Box.writes cs pre.length w (pre ++ old ++ post) hb (by simp; omega)
    have e : (pre ++ old ++ post).take pre.length ++ cs ++ (pre ++ old ++ post).drop (pre.length + cs.length) = pre ++ cs ++ post := by
      rw [List.append_assoc pre old post, List.take_left' rfl, ← hl, ← List.drop_drop, List.drop_left' rfl, List.drop_left' rfl]
    rwa [e] at this
theorem info_act : (Tryz.prog.info? 30).map (·.size) = some 4 := by kernel_rfl
theorem Aw.text_lt (x : Aw) : x.text.length < 60000 := by rw [Aw.text_length]; exact x.len_lt
theorem on_crashS (d : Dm) (k : List UInt8) : (d.crashS k).1.on.length = d.on.length := by
  unfold Dm.crashS
  split
  · rfl
  · simp [Dm.lose, settleL_length]
theorem wait_crashS (d : Dm) (k : List UInt8) : (d.crashS k).1.wait.length ≤ d.wait.length := by
  unfold Dm.crashS
  split
  · exact Nat.le_refl _
  · simp [Dm.lose]
theorem on_fuseS (d : Dm) (n : Int) (k : List UInt8) : (d.fuseS n k).1.on.length = d.on.length := by
  unfold Dm.fuseS
  split <;> rfl
theorem wait_fuseS (d : Dm) (n : Int) (k : List UInt8) : (d.fuseS n k).1.wait.length = d.wait.length := by
  unfold Dm.fuseS
  split <;> rfl
theorem wait_putHead (d : Dm) (a : Nat) (x : Hd) : (d.putHead a x).1.wait.length ≤ d.wait.length + 1 := by
  unfold Dm.putHead
  have h1 := wait_writeS d a (hsec x)
  generalize d.writeS a (hsec x) = r at h1 ⊢
  obtain ⟨d1, e⟩ := r
  dsimp only at h1 ⊢
  split
  · exact Nat.le_trans (wait_flushS d1) h1
  · exact h1
theorem on_formatS (d : Dm) (n : Int) (t : List UInt8) : (d.formatS n t).1.on.length = d.on.length := by
  unfold Dm.formatS
  split
  · rfl
  · split
    · rfl
    · exact on_putHead _ _ _
theorem wait_formatS (d : Dm) (n : Int) (t : List UInt8) : (d.formatS n t).1.wait.length ≤ d.wait.length + 1 := by
  unfold Dm.formatS
  split
  · exact Nat.le_succ _
  · split
    · exact Nat.le_succ _
    · exact wait_putHead _ _ _
theorem wait_putAll (n : Nat) : ∀ (ss : List Sh) (d : Dm), (Dm.putAll n ss d).1.wait.length ≤ d.wait.length + ss.length
  | [], d => wait_flushS d
  | s :: r, d => by
    have h1 := wait_writeS d ((2 + s.q % n : Nat) : Int) (secL s.q s.last s.t)
    unfold Dm.putAll
    generalize d.writeS ((2 + s.q % n : Nat) : Int) (secL s.q s.last s.t) = x at h1 ⊢
    obtain ⟨d1, e⟩ := x
    dsimp only at h1 ⊢
    split
    · have := wait_putAll n r d1
      simp only [List.length_cons]
      omega
    · simp only [List.length_cons]
      omega
section
variable {Bd : Nat} {d : Dm} {l : Lm}
theorem wait_commitS (l : Lm) (d : Dm) (t : List UInt8) (h : Lk Bd d l) : (l.commitS d t).2.1.wait.length ≤ d.wait.length + 600 := by
  have h5 := h.h_.hi
  unfold Lm.commitS
  split
  · exact Nat.le_add_right _ _
  · split
    · exact Nat.le_add_right _ _
    · split
      · exact Nat.le_add_right _ _
      · have h1 := wait_putAll l.h.n (cutL l.next t) d
        rw [cutL_length] at h1
        generalize Dm.putAll l.h.n (cutL l.next t) d = x at h1 ⊢
        obtain ⟨d1, e⟩ := x
        dsimp only at h1 ⊢
        split <;> (dsimp only; omega)
theorem on_commitS (l : Lm) (d : Dm) (t : List UInt8) (h : Lk Bd d l) : (l.commitS d t).2.1.on.length = d.on.length := by
  have h5 := h.h_.lo
  unfold Lm.commitS
  split
  · rfl
  · split
    · rfl
    · split
      · rfl
      · have h1 := (putAll_code l.h.n (by omega) (cutL l.next t) d h.in_ (fun s hs => by
          obtain ⟨i, _, rfl⟩ := cutL_mem hs
          exact shAt_le _ _ _)).2
        generalize Dm.putAll l.h.n (cutL l.next t) d = x at h1 ⊢
        obtain ⟨d1, e⟩ := x
        dsimp only at h1 ⊢
        split <;> exact h1
theorem on_trimS (l : Lm) (d : Dm) : (l.trimS d).2.1.on.length = d.on.length := by
  unfold Lm.trimS
  split
  · rfl
  · have h1 := on_putHead d (1 - l.a) l.newHead
    generalize d.putHead (1 - l.a) l.newHead = x at h1 ⊢
    obtain ⟨d1, e⟩ := x
    dsimp only at h1 ⊢
    split <;> exact h1
theorem wait_trimS (l : Lm) (d : Dm) : (l.trimS d).2.1.wait.length ≤ d.wait.length + 1 := by
  unfold Lm.trimS
  split
  · exact Nat.le_succ _
  · have h1 := wait_putHead d (1 - l.a) l.newHead
    generalize d.putHead (1 - l.a) l.newHead = x at h1 ⊢
    obtain ⟨d1, e⟩ := x
    dsimp only at h1 ⊢
    split <;> exact h1
/-- A log is trimmed, dead or not. -/
theorem Lk.trim_all (h : Lk Bd d l) (hg : Good Bd d) (ok : d.ok) (hw : d.wait.length + 1 < 1073741824) (hB : Bd + 10 < 18446744073709551616) : Good (Bd + 2) (l.trimS d).2.1 ∧ Lk (Bd + 2) (l.trimS d).2.1 (l.trimS d).1 := by
  rcases hd : l.dead with _ | _
  · exact (h.trim hg ok hw hB hd).2.2.2
  · have e : l.trimS d = (l, d, 4) := by unfold Lm.trimS; rw [if_pos hd]
    rw [e]
    exact ⟨hg.up (by omega), h.up (by omega) rfl⟩
end
/-- The log of a state, if there is one. -/
def LgO (B b : Nat) (pl : Value) (ms : List Value) (is : Bool) (lg : Option (Nat × Lm)) (W : World) : Prop := match lg with
  | none => is = false
  | some (g, l) => is = true ∧ pl = .pointer (some ⟨g, 0, none⟩) ∧ ms = mcs l ((l.h.n : Int) - l.left) ∧ Kg B g b l W
theorem LgO.of {B b g : Nat} {l : Lm} {W : World} (h : Kg B g b l W) : LgO B b (.pointer (some ⟨g, 0, none⟩)) (mcs l ((l.h.n : Int) - l.left)) true (some (g, l)) W := ⟨rfl, rfl, rfl, h⟩
section
variable {B b gs : Nat} {pl : Value} {ms : List Value} {is : Bool} {lg : Option (Nat × Lm)} {W W' : World}
theorem LgO.still (h : LgO B b pl ms is lg W) (hk : Kp (fun _ => False) W W') : LgO B b pl ms is lg W' := by
  rcases lg with _ | ⟨g, l⟩
  · exact h
  · exact ⟨h.1, h.2.1, h.2.2.1, h.2.2.2.still hk⟩
theorem LgO.dt (h : LgO B b pl ms is lg W) (hk : Kp (fun k => B ≤ k ∧ DT W k) W W') : LgO B b pl ms is lg W' := by
  rcases lg with _ | ⟨g, l⟩
  · exact h
  · exact ⟨h.1, h.2.1, h.2.2.1, h.2.2.2.dt hk⟩
theorem LgO.told (h : LgO B b pl ms is lg W) {cs : Array Value} (hs : Box W gs 44 cs) (hk : Kp (fun k => k = gs) W W') : LgO B b pl ms is lg W' := by
  rcases lg with _ | ⟨g, l⟩
  · exact h
  · exact ⟨h.1, h.2.1, h.2.2.1, h.2.2.2.told hs hk⟩
end
/-- What an act leaves behind. -/
abbrev Nx (B : Nat) (w : World) (gs b : Nat) (d : Dm) (Bd : Nat) (W : World) : Prop := ∃ (d' : Dm) (vo vw pl : Value) (ms : List Value) (is : Bool) (lg : Option (Nat × Lm)),
  Ks B w gs b d' d' vo vw pl ms is W ∧ LgO B b pl ms is lg W ∧ Good (Bd + 700) d' ∧ (∀ g l, lg = some (g, l) → Lk (Bd + 700) d' l) ∧ d'.on.length = d.on.length ∧ d'.wait.length ≤ d.wait.length + 1000
theorem trims_next {B : Nat} {w W : World} {gs g b Bd : Nat} {d : Dm} {l : Lm} {va vb : Value} (hl : Lk Bd d l) (hgd : Good Bd d) (ok : d.ok) (hw : d.wait.length + 1 < 1073741824) (hB : Bd + 10 < 18446744073709551616)
    (s6 : Ks B w gs b (l.trimS d).2.1 (l.trimS d).2.1 va vb (.pointer (some ⟨g, 0, none⟩)) (mcs (l.trimS d).1 (((l.trimS d).1.h.n : Int) - (l.trimS d).1.left)) true W) (g6 : Kg B g b (l.trimS d).1 W) : Nx B w gs b d Bd W := by
  obtain ⟨h1, h2⟩ := hl.trim_all hgd ok hw hB
  have h3 := wait_trimS l d
  exact ⟨_, va, vb, _, _, true, some (g, (l.trimS d).1), s6, LgO.of g6, h1.up (by omega), (fun g' l' e => by injection e with e; injection e with _ e; subst e; exact h2.up (by omega) rfl), on_trimS l d, by omega⟩
theorem opens_next {B : Nat} {w W : World} {gs b : Nat} {d : Dm} {vo vw pl : Value} {ms : List Value} {is : Bool} (h : Ks B w gs b d d vo vw pl ms is W) (htw : Tbl w) (hBw : B = w.heap.size) (hw : d.wait.length + 1 < 1073741824) (h2 : 2 ≤ d.on.length) {Bd : Nat} (hB : Bd + 70000 < 18446744073709551616) (hgd : Good Bd d) (trim : Bool) :
    Calls Tryz.prog 26 #[.pointer (some ⟨gs, 0, none⟩), .bool trim] W fun e W' => e = .returned (.bool true) ∧ Nx B w gs b d Bd W' := by
  have ok := h.dk.ok
  rcases ho : d.openS with ⟨_ | ⟨l, u⟩, c⟩
  · refine (opens_none h (h.tbl htw hBw) hBw htw hw h2 hB hgd trim ho).mono ?_
    rintro e W' ⟨rfl, s⟩
    exact ⟨rfl, d, vo, vw, _, _, false, none, s, rfl, hgd.up (by omega), (fun _ _ e => by cases e), rfl, by omega⟩
  · obtain ⟨⟨_, hl0, hlk⟩, _⟩ := ropen_all_some h.rf ok hB hgd ho
    refine (opens_some h (h.tbl htw hBw) hBw htw hw h2 hB hgd trim ho).mono ?_
    rintro e W' ⟨rfl, g, va, vb, s, hg⟩
    refine ⟨rfl, ?_⟩
    rcases trim with _ | _
    · have e1 : mcs l l.h.n = mcs l ((l.h.n : Int) - l.left) := by rw [hl0]; simp
      simp only [Bool.false_eq_true, if_false] at s hg
      rw [e1] at s
      exact ⟨d, va, vb, _, _, true, some (g, l), s, LgO.of hg, hgd.up (by omega), (fun g' l' e => by injection e with e; injection e with _ e; subst e; exact hlk.up (by omega) rfl), rfl, by omega⟩
    · simp only [if_true] at s hg
      exact trims_next hlk hgd ok hw (by omega) s hg
theorem rformat_all {w : World} {vo vw : Value} {d : Dm} (h0 : Rf w vo vw d) (ok : d.ok) {Bd : Nat} (hgd : Good Bd d) (n : Int) (note : List UInt8) (hw : d.wait.length + 1 < 1073741824) :
    Calls Tryz.prog 30 #[.agg (rcs d vo vw), .int .i64 n, .string ⟨note.toArray⟩] w fun e w' => ∃ vo' vw', e = .returned (.tuple #[.agg (rcs (d.formatS n note).1 vo' vw'), .int .i64 (d.formatS n note).2]) ∧ Rf w' vo' vw' (d.formatS n note).1 ∧ Kp (fun _ => False) w w' := by
  have := rformat_any h0 ok n note hw
  rwa [hgd.format ok n note] at this
end Go.Proofs.YtfcljcikajaedaaGreatDoor
