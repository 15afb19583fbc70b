/- Any text and any sheets: what Need, Cut and Join answer is what the document says. Condition: the table of half bytes reads as the program's text lays it. -/
import Derived.Test.YtdacjhgjaneeeaaDoorShPuts
namespace Go.Proofs.YtdacjhgjaneeeaaDoor
open Go.RowKit

theorem three_kp {w w' : World} {b p : Nat} {x y z : Value} (hk : Kp (fun _ => False) w w') (h0 : w.cell? ⟨b, p, none⟩ = some x) (h1 : w.cell? ⟨b, p + 1, none⟩ = some y) (h2 : w.cell? ⟨b, p + 2, none⟩ = some z) : w'.cell? ⟨b, p, none⟩ = some x ∧ w'.cell? ⟨b, p + 1, none⟩ = some y ∧ w'.cell? ⟨b, p + 2, none⟩ = some z := by
  have hb := World.block_lt_of_cell? w _ h0
  exact ⟨(hk.cell (p := ⟨b, p, none⟩) hb (fun e => e)).trans h0, (hk.cell (p := ⟨b, p + 1, none⟩) hb (fun e => e)).trans h1, (hk.cell (p := ⟨b, p + 2, none⟩) hb (fun e => e)).trans h2⟩
theorem eql_rsheet (s t : Sh) (w : World) : (binOp .eql 24 (.agg (cells3 s)) (.agg (cells3 t))).run Tryd.prog w = .ok (.bool (decide (s = t))) w := by
  have hS : Tryd.prog.underlying 24 = some (.struct (Tryd.prog.fieldsOf 24)) := by kernel_rfl
  have hp : Tryd.prog.stoodInHeld 24 = false := by kernel_rfl
  have u1 := Tryd.underlying22
  have u2 := Tryd.underlying4
  have u3 := Tryd.underlying9
  have a1 := Tryd.isAgg22
  have a2 := Tryd.isAgg4
  have a3 := Tryd.isAgg9
  have z1 := Tryd.sizeOf22
  have z2 := Tryd.sizeOf4
  have z3 := Tryd.sizeOf9
  simp only [cells3]
  rw [run_eql_struct, show (10000 : Nat) = 9999 + 1 from rfl, run_equalIn_agg w 9999 24 _ _ hS hp]
  simp only [Program.fieldsOf, Tryd.underlying24]
  go_simp
  by_cases h : s = t
  · subst h
    simp
  · have h1 : ¬ ((s.q : Int) = t.q ∧ s.last = t.last ∧ s.t = t.t) := fun e => h (Sh.ext' (by omega) e.2.1 e.2.2)
    rw [decide_eq_false h]
    repeat' split
    all_goals first | rfl | (exact absurd ⟨by assumption, by assumption, by assumption⟩ h1)
theorem cat_le' (B : Nat) (l : List Sh) (h : ∀ s ∈ l, s.t.length ≤ B) : (cat l).length ≤ B * l.length := by
  induction l with
  | nil => simp [cat]
  | cons s l ih =>
    have h1 := ih fun x hx => h x (List.mem_cons_of_mem _ hx)
    have h2 := h s List.mem_cons_self
    show (s.t ++ cat l).length ≤ _
    rw [List.length_append, List.length_cons, Nat.mul_succ]
    omega
theorem own_off' {w w' : World} {base : Nat} {e : TypeId} {size n : Nat} {v : Value} {xs : List Value} (h : w.ownsRow base e size v n xs) (hk : Kp (fun _ => False) w w') : w'.ownsRow base e size v n xs := by
  refine ⟨h.1, ?_⟩
  rcases h.2 with h2 | ⟨g, cap, cur, rfl, hb, hh, r⟩
  · exact .inl h2
  · have hb2 : Box w g e cur := hh
    exact .inr ⟨g, cap, cur, rfl, hb, hb2.kp hk (fun e => e), r⟩
theorem joinS_eq (l : List Sh) (h : 0 < l.length) : joinS l = if cutL l[0].q (cat l) = l then some (cat l) else none := by
  cases l with
  | nil => simp at h
  | cons s r => rfl
theorem three_at {w : World} {g o : Nat} {l : List Sh} {i : Nat} {p : Nat} (h : RdS w (some ⟨g, o, none⟩) l) (hi : i < l.length) (hp : o + 3 * i = p) : w.cell? ⟨g, p, none⟩ = some (.int .u64 l[i].q) ∧ w.cell? ⟨g, p + 1, none⟩ = some (.bool l[i].last) ∧ w.cell? ⟨g, p + 2, none⟩ = some (.string ⟨l[i].t.toArray⟩) := by
  obtain ⟨b, o', e, c0, c1, c2⟩ := h.three hi
  cases e
  subst hp
  exact ⟨c0, c1, c2⟩

set_option maxRecDepth 100000 in
set_option maxHeartbeats 8000000 in
theorem cuts_walk (q : Nat) (tx : List UInt8) (A : Option Addr) (n c : Nat) (l : List Sh) (w : World) (hq : q < 18446744073709551616) (hn : l.length = n) (hl : RdS w A l) (hlq : ∀ s ∈ l, s.q < 18446744073709551616) (ht : Tbl w) :
    Calls Tryd.prog 4 #[.int .u64 q, .string ⟨tx.toArray⟩, .slice A n c] w fun e w' => e = .returned (.bool true) ∧ Kp (fun _ => False) w w' := by
  have HT := Lib.hid ht
  have HL := Lib.hid hl
  have HN := Lib.hid hn
  have HLQ := Lib.hid hlq
  clear ht hl hn hlq
  have K0 := Lib.hid (Kp.refl (fun _ => False) w)
  obtain ⟨i0, hi0, hz0, hz1, hz2⟩ := info3 info_row
  by_cases hbig : 5000 < tx.length ∨ 20 < n
  · have hgo : (5000 < tx.length) ∨ (¬ 5000 < tx.length ∧ 20 < n) := by omega
    rcases hgo with h1 | ⟨h1, h2⟩
    · have hd : decide ((5000 : Int) < tx.length) = true := by simp; omega
      go_enter Tryd.func4, Tryd.ntmps4
      go_wp2_with fail
      refine (wakes_true _ (HT.out.kp K0.out (fun e => e))).mono ?_
      rintro e wz ⟨rfl, hk⟩
      have KZ := Lib.hid (K0.out.trans hk)
      clear hk
      go_wp2_with fail
      go_ret
      exact ⟨rfl, KZ.out⟩
    · have hd : decide ((5000 : Int) < tx.length) = false := by simp; omega
      have hd2 : decide ((20 : Int) < n) = true := by simp; omega
      go_enter Tryd.func4, Tryd.ntmps4
      go_wp2_with fail
      refine (wakes_true _ (HT.out.kp K0.out (fun e => e))).mono ?_
      rintro e wz ⟨rfl, hk⟩
      have KZ := Lib.hid (K0.out.trans hk)
      clear hk
      go_wp2_with fail
      go_ret
      exact ⟨rfl, KZ.out⟩
  · have hgt : decide ((5000 : Int) < tx.length) = false := by simp; omega
    have hgs : decide ((20 : Int) < n) = false := by simp; omega
    have htx : tx.length ≤ 5000 := by omega
    have hn20 : n ≤ 20 := by omega
    clear hbig
    obtain ⟨m, hm⟩ : ∃ m, need tx.length = m := ⟨_, rfl⟩
    have hm12 : m ≤ 12 := by rw [← hm]; unfold need; omega
    have hcut := cut_any q tx w hq (by omega)
    rw [hm] at hcut
    have hnd := fun w => need_any tx.length w (by omega)
    have hnl := fun w => need_less tx.length w (by omega)
    rw [hm] at hnd
    have HND := Lib.hid hnd
    have HNL := Lib.hid hnl
    have HM := Lib.hid hm
    clear hm hnd hnl
    go_enter Tryd.func4, Tryd.ntmps4
    go_wp2_with fail
    refine hcut.mono ?_
    clear hcut
    rintro e w1 ⟨v1, rfl, hown, hk⟩
    obtain ⟨A1, c1, rfl⟩ := own_shape3 hown
    obtain ⟨g1, rfl, hg1, _⟩ := own_addr hown (by rw [← HM.out]; exact need_pos _)
    have R1 := Lib.hid (RdS.of_own hown)
    have K1 := Lib.hid hk
    clear hown hk
    go_wp2_with fail
    have hrc := rcut_any q tx w1 hq (by omega)
    rw [HM.out] at hrc
    refine hrc.mono ?_
    clear hrc
    rintro e w2 ⟨v2, rfl, hown, hk⟩
    obtain ⟨A2, c2, rfl⟩ := own_shape3 hown
    obtain ⟨g2, rfl, hg2, _⟩ := own_addr hown (by rw [← HM.out]; exact need_pos _)
    have R1b := Lib.hid (R1.out.kp hk (fun _ _ e => e))
    have R2 := Lib.hid (RdS.of_own hown)
    have K2 := Lib.hid (K1.out.trans hk)
    have hc0 := Lib.hid (cutL_length q tx)
    obtain ⟨cs, hcs⟩ : ∃ cs, cutL q tx = cs := ⟨_, rfl⟩
    rw [hcs] at R1b R2 hc0
    rw [HM.out] at hc0
    clear hown hk hcs
    go_wp2_with fail
    refine (HND.out w2).mono ?_
    rintro e w2' ⟨rfl, rfl⟩
    go_wp2_with fail
    refine (HNL.out w2).mono ?_
    rintro e w2' ⟨rfl, rfl⟩
    go_wp2_with fail
    go_loopw [9] (fun s9 wr => ∃ i : Nat, i ≤ m ∧ s9 = .int .i64 i ∧ Kp (fun _ => False) w2 wr) (fun s9 _ => m - (intOf s9).toNat)
    case atStart => exact ⟨0, Nat.zero_le _, rfl, Kp.refl _ _⟩
    case round =>
      obtain ⟨i, hi, rfl, hkr⟩ := hrel
      have KR := Lib.hid hkr
      by_cases hlt : i < m
      · have hic : i < cs.length := by have := hc0.out; omega
        obtain ⟨p1, hp1⟩ : ∃ p, 0 + 3 * i = p := ⟨_, rfl⟩
        have t1 := three_at (R1b.out.kp hkr (fun _ _ e => e)) hic hp1
        have t2 := three_at (R2.out.kp hkr (fun _ _ e => e)) hic hp1
        obtain ⟨s, hs⟩ : ∃ s, cs[i] = s := ⟨_, rfl⟩
        rw [hs] at t1 t2
        obtain ⟨c10, c11, c12⟩ := t1
        obtain ⟨c20, c21, c22⟩ := t2
        have hneq : ∀ w : World, (binOp .neq 30 (.agg #[.int .u64 s.q, .bool s.last, .string ⟨s.t.toArray⟩]) (.agg #[.int .u64 s.q, .bool s.last, .string ⟨s.t.toArray⟩])).run Tryd.prog w = .ok (.bool false) w := fun w => (neq_sheet s s w).trans (by rw [decide_eq_true rfl]; rfl)
        have hq1 : i * 3 = p1 := by omega
        clear hp1 hs hkr
        go_upto_region 9 with fail
        refine wp_region_held_drew (S := fun v => (v.cell? ⟨g1, p1, none⟩ = some (.int .u64 s.q) ∧ v.cell? ⟨g1, p1 + 1, none⟩ = some (.bool s.last) ∧ v.cell? ⟨g1, p1 + 2, none⟩ = some (.string ⟨s.t.toArray⟩)) ∧ (v.cell? ⟨g2, p1, none⟩ = some (.int .u64 s.q) ∧ v.cell? ⟨g2, p1 + 1, none⟩ = some (.bool s.last) ∧ v.cell? ⟨g2, p1 + 2, none⟩ = some (.string ⟨s.t.toArray⟩))) (by kernel_rfl) (⟨⟨c10, c11, c12⟩, ⟨c20, c21, c22⟩⟩) (fun hHeld => ?_)
        refine wpAnyH_take (i := 0) (oi := { dst := some 59, op := Op.move (Operand.tmp 7), type := 39, pos := "law.go:51", after := #[], guard := none }) (v := ?_) rfl (by kernel_rfl) (by kernel_rfl) (by kernel_rfl) (fun _ _ _ h => h) (Or.inl ⟨by rfl, ?_⟩) (by assumption) ?_
        rotate_left
        · intro v hSw
          try dsimp only at hSw
          go_simp
          with_reducible rfl
        try simp only [Act.put, List.setIfInBounds_toArray, List.set_cons_zero, List.set_cons_succ]
        refine wpAnyH_take (i := 1) (oi := { dst := some 60, op := Op.move (Operand.tmp 9), type := 3, pos := "law.go:51", after := #[], guard := none }) (v := ?_) rfl (by kernel_rfl) (by kernel_rfl) (by kernel_rfl) (fun _ _ _ h => h) (Or.inl ⟨by rfl, ?_⟩) (by assumption) ?_
        rotate_left
        · intro v hSw
          try dsimp only at hSw
          go_simp
          with_reducible rfl
        try simp only [Act.put, List.setIfInBounds_toArray, List.set_cons_zero, List.set_cons_succ]
        refine wpAnyH_take (i := 2) (oi := { dst := some 61, op := Op.indexAddr 39 (Operand.tmp 59) (Operand.tmp 60), type := 0, pos := "law.go:51", after := #[{ on := 0, ground := Ground.data }, { on := 1, ground := Ground.data }], guard := none }) (v := ?_) rfl (by kernel_rfl) (by kernel_rfl) (by kernel_rfl) (fun _ _ _ h => h) (Or.inl ⟨by rfl, ?_⟩) (by assumption) ?_
        rotate_left
        · intro v hSw
          try dsimp only at hSw
          go_simp
          with_reducible rfl
        try simp only [Act.put, List.setIfInBounds_toArray, List.set_cons_zero, List.set_cons_succ]
        refine wpAnyH_take (i := 3) (oi := { dst := some 62, op := Op.load 30 (Operand.tmp 61), type := 30, pos := "law.go:51", after := #[{ on := 2, ground := Ground.data }], guard := none }) (v := ?_) rfl (by kernel_rfl) (by kernel_rfl) (by kernel_rfl) (fun _ _ _ h => h) (Or.inl ⟨by rfl, ?_⟩) (by assumption) ?_
        rotate_left
        · intro v hSw
          try dsimp only at hSw
          go_simp
          with_reducible rfl
        try simp only [Act.put, List.setIfInBounds_toArray, List.set_cons_zero, List.set_cons_succ]
        refine wpAnyH_take (i := 4) (oi := { dst := some 63, op := Op.move (Operand.tmp 8), type := 38, pos := "law.go:51", after := #[], guard := none }) (v := ?_) rfl (by kernel_rfl) (by kernel_rfl) (by kernel_rfl) (fun _ _ _ h => h) (Or.inl ⟨by rfl, ?_⟩) (by assumption) ?_
        rotate_left
        · intro v hSw
          try dsimp only at hSw
          go_simp
          with_reducible rfl
        try simp only [Act.put, List.setIfInBounds_toArray, List.set_cons_zero, List.set_cons_succ]
        refine wpAnyH_take (i := 5) (oi := { dst := some 64, op := Op.move (Operand.tmp 9), type := 3, pos := "law.go:51", after := #[], guard := none }) (v := ?_) rfl (by kernel_rfl) (by kernel_rfl) (by kernel_rfl) (fun _ _ _ h => h) (Or.inl ⟨by rfl, ?_⟩) (by assumption) ?_
        rotate_left
        · intro v hSw
          try dsimp only at hSw
          go_simp
          with_reducible rfl
        try simp only [Act.put, List.setIfInBounds_toArray, List.set_cons_zero, List.set_cons_succ]
        refine wpAnyH_take (i := 6) (oi := { dst := some 65, op := Op.indexAddr 38 (Operand.tmp 63) (Operand.tmp 64), type := 0, pos := "law.go:51", after := #[{ on := 4, ground := Ground.data }, { on := 5, ground := Ground.data }], guard := none }) (v := ?_) rfl (by kernel_rfl) (by kernel_rfl) (by kernel_rfl) (fun _ _ _ h => h) (Or.inl ⟨by rfl, ?_⟩) (by assumption) ?_
        rotate_left
        · intro v hSw
          try dsimp only at hSw
          go_simp
          with_reducible rfl
        try simp only [Act.put, List.setIfInBounds_toArray, List.set_cons_zero, List.set_cons_succ]
        refine wpAnyH_take (i := 7) (oi := { dst := some 66, op := Op.load 24 (Operand.tmp 65), type := 24, pos := "law.go:51", after := #[{ on := 6, ground := Ground.data }], guard := none }) (v := ?_) rfl (by kernel_rfl) (by kernel_rfl) (by kernel_rfl) (fun _ _ _ h => h) (Or.inl ⟨by rfl, ?_⟩) (by assumption) ?_
        rotate_left
        · intro v hSw
          try dsimp only at hSw
          go_simp
          with_reducible rfl
        try simp only [Act.put, List.setIfInBounds_toArray, List.set_cons_zero, List.set_cons_succ]
        refine wpAnyH_ready (rs := [8]) (by kernel_rfl) (by simp) ?_
        refine AllReadyH.cons (o := { dst := some 67, op := Op.call { callee := Callee.value (Operand.func 8), args := #[Operand.tmp 66], argTypes := #[24] }, type := 30, pos := "law.go:51", after := #[{ on := 7, ground := Ground.data }], guard := none }) rfl (fun K hK => ?_) AllReadyH.nil
        go_simp
        refine (ofs_any s wr.drew).mono ?_
        rintro e w4 ⟨rfl, hk⟩
        have K4 := Lib.hid ((KR.out.drew).trans hk)
        have HC := Lib.hid (three_kp ((Kp.refl _ wr).drew.trans hk) c10 c11 c12)
        have HD := Lib.hid (three_kp ((Kp.refl _ wr).drew.trans hk) c20 c21 c22)
        clear hk
        go_wp2_with fail
        refine hK.out _ _ (⟨HC.out, HD.out⟩) (fun hHeld1 => ?_)
        clear hK K
        try simp only [Act.put, List.setIfInBounds_toArray, List.set_cons_zero, List.set_cons_succ]
        refine wpAnyH_take (i := 9) (oi := { dst := some 68, op := Op.binOp BinOp.neq 30 (Operand.tmp 62) (Operand.tmp 67) 30, type := 4, pos := "law.go:51", after := #[{ on := 3, ground := Ground.data }, { on := 8, ground := Ground.data }], guard := none }) (v := ?_) rfl (by kernel_rfl) (by kernel_rfl) (by kernel_rfl) (fun _ _ _ h => h) (Or.inl ⟨by rfl, ?_⟩) (by assumption) ?_
        rotate_left
        · intro v hSw
          try dsimp only at hSw
          go_simp
          with_reducible rfl
        try simp only [Act.put, List.setIfInBounds_toArray, List.set_cons_zero, List.set_cons_succ]
        refine wpAnyH_done (by kernel_rfl) ?_ _
        go_wp2_with fail
        go_roundw
        case rel => exact ⟨i + 1, by omega, by go_num, K4.out⟩
        case measure => simp [intOf]; omega
      · have K3 := Lib.hid (K2.out.trans hkr)
        clear hkr KR R1b R2 hc0 R1
        go_wp2_with fail
        go_loopw [10, 11, 12] (fun s10 s11 s12 wr2 => ∃ k : Nat, k ≤ n ∧ s10 = .string ⟨(cat (l.take k)).toArray⟩ ∧ s12 = .int .i64 k ∧ wr2.ownsRow w.heap.size 30 3 s11 k (rowS (l.take k)) ∧ (∀ s ∈ l.take k, s.t.length ≤ 1000) ∧ Kp (fun _ => False) w wr2) (fun _ _ s12 _ => n - (intOf s12).toNat)
        case atStart => exact ⟨0, Nat.zero_le _, by simp [cat], rfl, by simpa [rowS] using World.ownsRow_nil _ _ _ _, by simp, K3.out⟩
        case round =>
          obtain ⟨k, hk, rfl, rfl, hown, hall, hkw⟩ := hrel
          have KW := Lib.hid hkw
          have HA := Lib.hid hall
          have HO := Lib.hid hown
          have hws := hkw.size
          clear hall hown
          by_cases hlt : k < n
          · have h1 : k < l.length := by have := HN.out; omega
            obtain ⟨b1, o1, rfl, c10, c11, c12⟩ := (HL.out.kp hkw (fun _ _ e => e)).three h1
            obtain ⟨s, hs⟩ : ∃ s, l[k] = s := ⟨_, rfl⟩
            rw [hs] at c10 c11 c12
            obtain ⟨p1, hp1⟩ : ∃ p, o1 + 3 * k = p := ⟨_, rfl⟩
            rw [hp1] at c10 c11 c12
            have hq1 : o1 + k * 3 = p1 := by omega
            have HS := Lib.hid hs
            clear hp1 hs hkw
            by_cases hlong : 1000 < s.t.length
            · have hd : decide ((1000 : Int) < s.t.length) = true := by simp; omega
              go_wp2_with fail
              refine (wakes_true _ (HT.out.kp KW.out (fun e => e))).mono ?_
              rintro e wz ⟨rfl, hk⟩
              have KZ := Lib.hid (KW.out.trans hk)
              clear hk
              go_wp2_with fail
              go_ret
              exact ⟨rfl, KZ.out⟩
            · have hd : decide ((1000 : Int) < s.t.length) = false := by simp; omega
              have hcl := cat_le' 1000 _ HA.out
              rw [List.length_take] at hcl
              have hts : l.take (k + 1) = l.take k ++ [s] := by rw [List.take_succ_eq_append_getElem h1, HS.out]
              have hcb : cat (l.take k) ++ s.t = cat (l.take (k + 1)) := by rw [hts, cat_snoc]
              have hrow : rowS (l.take (k + 1)) = rowS (l.take k) ++ (cells3 s).toList := by rw [hts, rowS_snoc]
              have hadd := fun w => add_str (P := Tryd.prog) (cat (l.take k)) s.t _ w hcb (by omega)
              obtain ⟨ca, hca⟩ : ∃ x, cat (l.take k) = x := ⟨_, rfl⟩
              obtain ⟨cb, hcb2⟩ : ∃ x, cat (l.take (k + 1)) = x := ⟨_, rfl⟩
              rw [hca, hcb2] at hadd
              rw [hca]
              have HCB := Lib.hid hcb2
              have HRow := Lib.hid hrow
              have HTS := Lib.hid hts
              clear hcl hts hcb hrow hca hcb2
              go_wp2_with fail
              refine (ofs_any s wr).mono ?_
              rintro e w5 ⟨rfl, hk5⟩
              have K5 := Lib.hid (KW.out.trans hk5)
              have HO5 := Lib.hid (own_off' HO.out hk5)
              have hw5 := K5.out.size
              obtain ⟨A5, c5, rfl⟩ := own_shape3 HO.out
              have hn3 := Lib.hid (new3 w5 s 30)
              have hone := Lib.hid (one3 s)
              clear hk5 hadd c10 c11 c12
              go_wp2_with (at_builtin; go_must (refine wpList_append_own _ rfl (.tmp 90) (.tmp 96) 39 rfl w.heap.size 30 i0 _ 3 32 Tryd.underlying39 hi0 hz0 hz1 hz2 rfl (by decide) _ k _ rfl (HO5.out.alloc _) ⟨w5.heap.size, 0, none⟩ 1 1 [.int .u64 s.q, .bool s.last, .string ⟨s.t.toArray⟩] rfl rfl hn3.out hone.out (by unfold maxLen; omega) (by omega) (by simp; omega) ?_; intro v' w6 hown2 hgrow2 _; obtain ⟨A', c', rfl⟩ := own_shape3 hown2; have HR6 := Lib.hid hown2; have HG6 := Lib.hid hgrow2; clear hown2 hgrow2))
              have hkw6 : Kp (fun _ => False) w w6 := (K5.out.alloc (.cells #[.int .u64 s.q, .bool s.last, .string ⟨s.t.toArray⟩] 30)).grown HG6.out (fun j e => .inl ((HO5.out.lt j e).1))
              go_roundw
              case rel =>
                refine ⟨k + 1, by omega, by rw [HCB.out], by go_num, ?_, ?_, hkw6⟩
                · rw [HRow.out]
                  exact HR6.out
                · rw [HTS.out]
                  intro x hx
                  rcases List.mem_append.1 hx with hx | hx
                  · exact HA.out x hx
                  · rw [List.mem_singleton] at hx
                    rw [hx]
                    omega
              case measure => simp [intOf]; omega
          · have htk : l.take k = l := List.take_of_length_le (by have := HN.out; omega)
            have HKN := Lib.hid (show k = n by omega)
            have ho := HO.out
            have ha := HA.out
            rw [htk] at ho ha ⊢
            have hcl := cat_le' 1000 _ ha
            obtain ⟨A6, c6, rfl⟩ := own_shape3 ho
            have hrs := RdS.of_own ho
            have HRS := Lib.hid hrs
            have hkl : Hid (l.length = k) := Lib.hid (by have := HN.out; have := HKN.out; omega)
            clear ho ha HO HA htk hrs
            by_cases hn0 : n = 0
            · have hnil : l = [] := List.eq_nil_of_length_eq_zero (by have := HN.out; omega)
              have hJN := Lib.hid (joinV_none (show joinS l = none by rw [hnil]; rfl))
              have hda : decide (0 < n) = false := by simp; omega
              have hdb : decide ((0 : Int) < (n : Int)) = false := by simp; omega
              clear hnil hkw hn0
              go_wp2_with fail
              have hj := join_any A6 c6 k l wr (HRS.out) hkl.out (by omega) HLQ.out
              rw [hJN.out] at hj
              refine hj.mono ?_
              clear hj
              rintro e wj ⟨rfl, hk⟩
              have KJ := Lib.hid (KW.out.trans hk)
              clear hk
              go_wp2_with fail
              refine (wakes_true _ (HT.out.kp KJ.out (fun e => e))).mono ?_
              rintro e wz ⟨rfl, hk⟩
              have KZ := Lib.hid (KJ.out.trans hk)
              clear hk
              go_wp2_with fail
              go_ret
              exact ⟨rfl, KZ.out⟩
            · have hl0 : 0 < l.length := by have := HN.out; omega
              have hje := joinS_eq l hl0
              obtain ⟨b1, o1, rfl, c10, c11, c12⟩ := (HL.out.kp hkw (fun _ _ e => e)).three hl0
              simp only [Nat.mul_zero, Nat.add_zero] at c10 c11 c12
              obtain ⟨q0, hq0⟩ : ∃ q0, l[0].q = q0 := ⟨_, rfl⟩
              have hq064 : q0 < 18446744073709551616 := by rw [← hq0]; exact HLQ.out _ (List.getElem_mem hl0)
              rw [hq0] at c10 hje
              obtain ⟨ca, hca⟩ : ∃ ca, cat l = ca := ⟨_, rfl⟩
              rw [hca] at hcl hje ⊢
              have hca2 : ca.length ≤ 20000 := by have := hkl.out; omega
              obtain ⟨cc, hcc⟩ : ∃ cc, cutL q0 ca = cc := ⟨_, rfl⟩
              obtain ⟨mc, hmc⟩ : ∃ mc, need ca.length = mc := ⟨_, rfl⟩
              have hmc41 : mc ≤ 41 := by rw [← hmc]; unfold need; omega
              have hlc := Lib.hid (show cc.length = mc by rw [← hcc, cutL_length, hmc])
              rw [hcc] at hje
              have HJE := Lib.hid hje
              have hda : decide (0 < n) = true := by simp; omega
              have hdb : decide ((0 : Int) < (n : Int)) = true := by simp; omega
              have hrc := rcut_any q0 ca wr hq064 (by omega)
              rw [hmc, hcc] at hrc
              have HRC := Lib.hid hrc
              have HMC := Lib.hid hmc
              clear hrc hje hcc hmc hca hq0 hcl hkw
              go_wp2_with fail
              refine HRC.out.mono ?_
              clear HRC c10 c11 c12
              rintro e w7 ⟨v7, rfl, hown, hk⟩
              obtain ⟨A7, c7, rfl⟩ := own_shape3 hown
              obtain ⟨g7, rfl, _, _⟩ := own_addr hown (by rw [← HMC.out]; exact need_pos _)
              have R7 := Lib.hid (RdS.of_own hown)
              have K7 := Lib.hid (KW.out.trans hk)
              have RS7 := Lib.hid (HRS.out.kp hk (fun _ _ e => e))
              clear hown hk
              obtain ⟨b0, hb0⟩ : ∃ b0, ((mc : Int) == (n : Int)) = b0 := ⟨_, rfl⟩
              have HB0 := Lib.hid hb0
              have hbiff : b0 = true ↔ mc = n := by rw [← hb0]; simp; omega
              have HBI := Lib.hid hbiff
              clear hbiff
              go_wp2_with fail
              clear hb0 hda hdb
              go_loopw [13, 15] (fun s13 s15 wr3 => ∃ (i : Nat) (b : Bool), i ≤ mc ∧ s13 = .bool b ∧ s15 = .int .i64 i ∧ (b = true → mc = n ∧ cc.take i = l.take i) ∧ (b = false → cc ≠ l) ∧ Kp (fun _ => False) w7 wr3) (fun _ s15 _ => mc - (intOf s15).toNat)
              case atStart =>
                refine ⟨0, b0, Nat.zero_le _, rfl, rfl, fun h => ⟨HBI.out.1 h, by simp⟩, fun h e => ?_, Kp.refl _ _⟩
                have h2 : mc = n := by rw [← hlc.out, e]; exact HN.out
                rw [HBI.out.2 h2] at h
                cases h
              case round =>
                obtain ⟨i, b, hi, rfl, rfl, ht1, hf1, hk3⟩ := hrel
                have K3 := Lib.hid hk3
                have HT1 := Lib.hid ht1
                have HF1 := Lib.hid hf1
                clear ht1 hf1
                cases b
                · have hJN := Lib.hid (joinV_none (show joinS l = none by rw [HJE.out, if_neg (HF1.out rfl)]))
                  have KX := Lib.hid (K7.out.trans hk3)
                  have RX := Lib.hid (RS7.out.kp hk3 (fun _ _ e => e))
                  clear hk3
                  go_wp2_with fail
                  all_goals
                    have hj := join_any A6 c6 k l wr (RX.out) hkl.out (by omega) HLQ.out
                    rw [hJN.out] at hj
                    refine hj.mono ?_
                    clear hj
                    rintro e wj ⟨rfl, hk⟩
                    have KJ := Lib.hid (KX.out.trans hk)
                    clear hk
                    go_wp2_with fail
                    refine (wakes_true _ (HT.out.kp KJ.out (fun e => e))).mono ?_
                    rintro e wz ⟨rfl, hk⟩
                    have KZ := Lib.hid (KJ.out.trans hk)
                    clear hk
                    go_wp2_with fail
                    go_ret
                    exact ⟨rfl, KZ.out⟩
                · obtain ⟨hmn, htk⟩ := HT1.out rfl
                  have HTK := Lib.hid htk
                  have HMN := Lib.hid hmn
                  by_cases hlt : i < mc
                  · have h1 : i < cc.length := by have := hlc.out; omega
                    have h2 : i < l.length := by have := HN.out; omega
                    obtain ⟨p1, hp1⟩ : ∃ p, 0 + 3 * i = p := ⟨_, rfl⟩
                    have t1 := three_at (R7.out.kp hk3 (fun _ _ e => e)) h1 hp1
                    obtain ⟨p2, hp2⟩ : ∃ p, o1 + 3 * i = p := ⟨_, rfl⟩
                    have t2 := three_at (HL.out.kp (K7.out.trans hk3) (fun _ _ e => e)) h2 hp2
                    have heq := eql_rsheet cc[i] l[i]
                    obtain ⟨x, hx⟩ : ∃ x, cc[i] = x := ⟨_, rfl⟩
                    obtain ⟨y, hy⟩ : ∃ y, l[i] = y := ⟨_, rfl⟩
                    rw [hx] at t1 heq
                    rw [hy] at t2 heq
                    simp only [cells3] at heq
                    obtain ⟨c20, c21, c22⟩ := t1
                    obtain ⟨c30, c31, c32⟩ := t2
                    have hq1 : i * 3 = p1 := by omega
                    have hq2 : o1 + p1 = p2 := by omega
                    have HX := Lib.hid hx
                    have HY := Lib.hid hy
                    obtain ⟨eb, heb⟩ : ∃ eb, decide (x = y) = eb := ⟨_, rfl⟩
                    rw [heb] at heq
                    have HEB := Lib.hid heb
                    have hin : i < n := by omega
                    clear hp1 hp2 hx hy heb htk hmn hk3
                    go_wp2_with fail
                    go_quiet (fail)
                    go_wp2_with fail
                    go_roundw
                    case rel =>
                      refine ⟨i + 1, eb, by omega, rfl, by go_num, fun h => ⟨HMN.out, ?_⟩, fun h e => ?_, K3.out.drewN _⟩
                      · have hxy : x = y := of_decide_eq_true (HEB.out.trans h)
                        rw [List.take_succ_eq_append_getElem h1, List.take_succ_eq_append_getElem h2, HTK.out, HX.out, HY.out, hxy]
                      · have hxy : x = y := by
                          rw [← HX.out, ← HY.out]
                          subst e
                          rfl
                        have := HEB.out
                        rw [h, decide_eq_true hxy] at this
                        cases this
                    case measure => simp [intOf]; omega
                  · have hcl2 : cc = l := by
                      rw [List.take_of_length_le (by have := hlc.out; omega), List.take_of_length_le (by have := HN.out; omega)] at htk
                      exact htk
                    have hJS := Lib.hid (joinV_some (show joinS l = some ca by rw [HJE.out, if_pos hcl2]))
                    have KX := Lib.hid (K7.out.trans hk3)
                    have RX := Lib.hid (RS7.out.kp hk3 (fun _ _ e => e))
                    clear hk3 hcl2 htk hmn
                    go_wp2_with fail
                    have hj := join_any A6 c6 k l wr (RX.out) hkl.out (by omega) HLQ.out
                    rw [hJS.out] at hj
                    refine hj.mono ?_
                    clear hj
                    rintro e wj ⟨rfl, hk⟩
                    have KJ := Lib.hid (KX.out.trans hk)
                    clear hk
                    go_wp2_with fail
                    refine (wakes_true _ (HT.out.kp KJ.out (fun e => e))).mono ?_
                    rintro e wz ⟨rfl, hk⟩
                    have KZ := Lib.hid (KJ.out.trans hk)
                    clear hk
                    go_wp2_with fail
                    go_ret
                    exact ⟨rfl, KZ.out⟩
end Go.Proofs.YtdacjhgjaneeeaaDoor
