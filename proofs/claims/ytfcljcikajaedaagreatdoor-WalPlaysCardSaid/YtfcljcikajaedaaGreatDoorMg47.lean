/- WalPlays' walk: for every number of sectors and every slice of acts the law returns true. Condition: the table of half bytes reads as the program's text lays it. -/
import Derived.Test.YtfcljcikajaedaaGreatDoorMg3
import Derived.Test.YtfcljcikajaedaaGreatDoorMg46
import Derived.Test.YtfcljcikajaedaaGreatDoorMg43
namespace Go.Proofs.YtfcljcikajaedaaGreatDoor
open Go.RowKit Go.Maps

theorem good_new (n : Nat) : Good 1 (newDm n) := by
  refine ⟨fun k hk => ?_, fun x hx => ?_⟩
  · have e : (newDm n).on.getD k [] = zsec0 := by
      have hk' : k < n := by rw [newDm_on, List.length_replicate] at hk; exact hk
      rw [newDm_on, List.getD_eq_getElem?_getD, List.getElem?_replicate_of_lt hk']
      rfl
    rw [e]
    exact ⟨fun _ => .inl rfl, fun _ s hs => by rw [takeS_zero] at hs; cases hs⟩
  · exact absurd (show x ∈ ([] : List (Nat × List UInt8)) from hx) (by simp)
theorem Ks.ons {B : Nat} {w : World} {gs b : Nat} {dp d : Dm} {vo vw pl : Value} {ms : List Value} {is : Bool} {W : World} (h : Ks B w gs b dp d vo vw pl ms is W) : W.cell? ⟨gs, 1, none⟩ = some vo := by
  obtain ⟨a0, a1, a2, a3, a4, a5, a6, a7, rfl⟩ := eight h.ml
  exact h.box.cell 1
/-- What the loop keeps. -/
abbrev Np (B : Nat) (w : World) (gs b n k : Nat) (W : World) : Prop := ∃ (d : Dm) (vo vw pl : Value) (ms : List Value) (is : Bool) (lg : Option (Nat × Lm)),
  Ks B w gs b d d vo vw pl ms is W ∧ LgO B b pl ms is lg W ∧ Good (1 + 700 * k) d ∧ (∀ g l, lg = some (g, l) → Lk (1 + 700 * k) d l) ∧ d.on.length = n ∧ d.wait.length ≤ 1000 * k
set_option maxRecDepth 100000 in
set_option maxHeartbeats 16000000 in
theorem rplays_main (n : Nat) (h90 : 90 ≤ n) (h160 : n ≤ 160) (A : Option Addr) (acts : List Aw) (c : Nat) (w : World) (h : Aws w w.heap.size A acts) (hc : acts.length ≤ c) (hm : c ≤ maxLen) (hg : greatW acts = false) (ht : Tbl w) :
    Calls Tryz.prog 3 #[.int .u8 n, .slice A acts.length c] w fun e w' => e = .returned (.bool true) ∧ Kp (fun k => w.heap.size ≤ k) w w' := by
  have HT := Lib.hid ht
  have HC := Lib.hid h
  have hgr := greatw_any h c hc hm
  rw [hg] at hgr
  have hl30 : acts.length ≤ 30 := (not_greatW hg).1
  unfold maxLen at hm
  clear ht h hg
  have hd1 : ¬ ((n : Int) < 90) := by omega
  have hd2 : ¬ (160 < (n : Int)) := by omega
  go_enter Tryz.func3, Tryz.ntmps3
  go_wp2_with fail
  refine hgr.mono ?_
  clear hgr
  rintro e w1 ⟨rfl, rfl⟩
  go_wp2_with fail
  refine (begin_any n (by omega) (by omega) w).mono ?_
  rintro e w1 ⟨gs, b, vo, vw, rfl, hd, hs, hrf, hgs, hk⟩
  have N1 := Lib.hid (show Np w.heap.size w gs b n 0 w1 from ⟨newDm n, vo, vw, .pointer none, zm, false, none, ⟨hs, rfl, hd, hrf, hgs, hk.of_false⟩, rfl, good_new n, (fun g l e => by cases e), by rw [newDm_on, List.length_replicate], Nat.le_refl _⟩)
  clear hd hs hrf hk
  go_wp2_with fail
  go_loopw [8] (fun s8 wx => ∃ k : Nat, k ≤ acts.length ∧ s8 = .int .i64 k ∧ Np w.heap.size w gs b n k wx) (fun s8 _ => acts.length - (intOf s8).toNat)
  case atStart => exact ⟨0, Nat.zero_le _, rfl, N1.out⟩
  case round =>
    obtain ⟨k, hkl, rfl, d, vo, vw, pl, ms, is, lg, hks, hlg, hgd, hlk, hon, hwt⟩ := hrel
    have SX := Lib.hid hks
    have GX := Lib.hid hlg
    have HGD := Lib.hid hgd
    have HLK := Lib.hid hlk
    have HON := Lib.hid hon
    have HWT := Lib.hid hwt
    clear hks hlg hgd hlk hon hwt N1
    by_cases hlt : k < acts.length
    · obtain ⟨bA, oA, hA, _, hcell⟩ : ∃ b o, A = some ⟨b, o, none⟩ ∧ b < w.heap.size ∧ ∀ i x, acts[i]? = some x → ∀ j v, x.cells[j]? = some v → wr.cell? ⟨b, o + i * 4 + j, none⟩ = some v := by
        rcases (HC.out.keep (fun q hq => SX.out.kp.block q hq (by omega))).2 with h0 | h0
        · subst h0; simp at hlt
        · exact h0
      subst hA
      obtain ⟨x, hx⟩ : ∃ x, acts[k]? = some x := ⟨_, List.getElem?_eq_getElem hlt⟩
      have e0 : wr.cell? ⟨bA, oA + k * 4, none⟩ = some (.int .u8 x.d) := hcell k x hx 0 _ rfl
      have e1 : wr.cell? ⟨bA, oA + k * 4 + 1, none⟩ = some (.int .i64 x.n) := hcell k x hx 1 _ rfl
      have e2 : wr.cell? ⟨bA, oA + k * 4 + 2, none⟩ = some (.int .u8 x.c.toNat) := hcell k x hx 2 _ rfl
      have e3 : wr.cell? ⟨bA, oA + k * 4 + 3, none⟩ = some (.string ⟨x.keep.toArray⟩) := hcell k x hx 3 _ rfl
      have hdo := rdoes_any SX.out GX.out HT.out rfl (by have := HWT.out; omega) (by have := HON.out; omega) (Bd := 1 + 700 * k) (by omega) (by omega) HGD.out HLK.out x (HC.out.1 x (List.mem_of_getElem? hx))
      simp only [Aw.cells] at hdo
      have HDO := Lib.hid hdo
      obtain ⟨pA, hpA⟩ : ∃ p, oA + k * 4 = p := ⟨_, rfl⟩
      rw [hpA] at e0 e1 e2 e3
      clear hcell hx hdo
      go_wp2_with fail
      refine HDO.out.mono ?_
      rintro e w2 ⟨rfl, d2, vo2, vw2, pl2, ms2, is2, lg2, hks, hlg, hgd, hlk, hon, hwt⟩
      have NN := Lib.hid (show Np w.heap.size w gs b n (k + 1) w2 from ⟨d2, vo2, vw2, pl2, ms2, is2, lg2, hks, hlg, hgd.up (by omega), (fun g l e => (hlk g l e).up (by omega) rfl), by rw [hon]; exact HON.out, by have := HWT.out; omega⟩)
      clear hks hlg hgd hlk hon hwt HDO e0 e1 e2 e3 hpA SX GX HGD HLK
      go_wp2_with fail
      go_roundw
      case rel => exact ⟨k + 1, by omega, by go_num, NN.out⟩
      case measure => simp [intOf]; omega
    · have hge : acts.length ≤ k := by omega
      have hdf : decide (k < acts.length) = false := by simp; omega
      clear hlt
      go_wp2_with fail
      have S0 := Lib.hid SX.out
      go_loopw [9] (fun s9 wx => ∃ q : Nat, q ≤ n ∧ s9 = .int .i64 q ∧ Ks w.heap.size w gs b d d vo vw pl ms is wx) (fun s9 _ => n - (intOf s9).toNat)
      case atStart => exact ⟨0, Nat.zero_le _, rfl, S0.out⟩
      case round =>
        obtain ⟨q, hin, rfl, hks⟩ := hrel
        have SX := Lib.hid hks
        obtain ⟨Ao, co, hvo⟩ : ∃ Ao co, vo = .slice Ao d.on.length co := by
          obtain ⟨_, Ao, co, hvo, _⟩ := hks.rf.on
          exact ⟨Ao, co, hvo⟩
        subst hvo
        clear hks S0
        by_cases hlt : q < n
        · have hlt2 : q < d.on.length := by have := HON.out; omega
          obtain ⟨go, co', hvg, _, hcell⟩ := SX.out.rf.on.cell (show 0 < d.on.length by omega)
          injection hvg with hA hB0 hC
          clear hB0
          subst hA
          subst hC
          have ck : wr.cell? ⟨go, q, none⟩ = some (.string ⟨(d.on.getD q []).toArray⟩) := hcell _ _ (strs_get d.on q hlt2)
          obtain ⟨T, hT⟩ : ∃ T, d.on.getD q [] = T := ⟨_, rfl⟩
          rw [hT] at ck
          have HTT := Lib.hid hT
          have hsb : secB d (q : Int) = true := by simp [secB]; omega
          have hkk : ((q : Int)).toNat = q := by omega
          have y0 := SX.out.cells.1
          have y1 := SX.out.ons
          clear hcell hT
          go_upto_region 15 with fail
          refine wp_region_held_drew (S := fun v => v.cell? ⟨gs, 0, none⟩ = some (.pointer (some ⟨b, 0, none⟩)) ∧ v.cell? ⟨gs, 1, none⟩ = some (.slice (some ⟨go, 0, none⟩) d.on.length co) ∧ v.cell? ⟨go, q, none⟩ = some (.string ⟨T.toArray⟩)) (by kernel_rfl) (⟨y0, y1, ck⟩) (fun hHeld => ?_)
          refine tk 0 (h := ?_)
          refine tk 1 (h := ?_)
          refine tk 2 (h := ?_)
          refine tk 3 (h := ?_)
          refine tk 4 (h := ?_)
          refine tk 7 (h := ?_)
          refine tk 8 (h := ?_)
          refine tk 9 (h := ?_)
          refine tk 10 (h := ?_)
          refine tk 11 (h := ?_)
          refine tk 12 (h := ?_)
          refine tk 13 (h := ?_)
          refine tk 14 (h := ?_)
          refine rd 5 (h := fun K hK => ?_)
          go_simp
          refine (raw_any (SX.out.still (Kp.refl _ wr).drew).dk q).mono ?_
          rintro e w3 ⟨A9, rfl, hrd, k3⟩
          rw [hsb, if_pos rfl, hkk, show d.rawAt q = T from HTT.out] at hrd ⊢
          have ht := hrd.text (P := Tryz.prog) 31 9 5 T.length Tryz.underlying31 Tryz.underlying5 Tryz.underlying9
          have K3 := Lib.hid ((Kp.refl (fun _ => False) wr).drew.trans k3)
          have q0 := (K3.out.cell (p := ⟨gs, 0, none⟩) (World.block_lt_of_cell? wr _ y0) (fun h => h)).trans y0
          have q1 := (K3.out.cell (p := ⟨gs, 1, none⟩) (World.block_lt_of_cell? wr _ y1) (fun h => h)).trans y1
          have q2 := (K3.out.cell (p := ⟨go, q, none⟩) (World.block_lt_of_cell? wr _ ck) (fun h => h)).trans ck
          clear hrd k3
          go_wp2_with fail
          refine hK.out _ _ (⟨q0, q1, q2⟩) (fun hHeld1 => ?_)
          clear hK K
          try simp only [Act.put, List.setIfInBounds_toArray, List.set_cons_zero, List.set_cons_succ]
          refine rd 6 (h := fun K hK => ?_)
          go_simp
          clear ht
          refine hK.out _ _ (⟨q0, q1, q2⟩) (fun hHeld2 => ?_)
          clear hK K
          try simp only [Act.put, List.setIfInBounds_toArray, List.set_cons_zero, List.set_cons_succ]
          refine tk 15 (h := ?_)
          refine wpAnyH_done (by kernel_rfl) ?_ _
          clear hsb hkk q0 q1 q2 ck y0 y1 hHeld
          go_wp2_with fail
          go_roundw
          case rel => exact ⟨q + 1, by omega, by go_num, SX.out.still K3.out⟩
          case measure => simp [intOf]; omega
        · have hge2 : n ≤ q := by omega
          clear hlt
          go_wp2_with fail
          refine (wakes_true wr (SX.out.tbl HT.out rfl)).mono ?_
          rintro e w9 ⟨rfl, k9⟩
          have K9 := Lib.hid (SX.out.kp.trans k9.of_false)
          clear k9
          go_wp2_with fail
          go_ret
          exact ⟨rfl, K9.out⟩
end Go.Proofs.YtfcljcikajaedaaGreatDoor

/- A log answers what the document says: the law, whatever comes in. No condition. -/
namespace Go.Proofs.YtfcljcikajaedaaGreatDoor
open Go.RowKit Go.Maps

set_option maxRecDepth 100000 in
set_option maxHeartbeats 2000000 in
theorem wplays_walk (a0 : Int) (h0 : 0 ≤ a0) (h1 : a0 ≤ 255) (A : Option Addr) (l : List Aw) (c : Nat) (w : World) (h : Aws w w.heap.size A l) (hc : l.length ≤ c) (hm : c ≤ maxLen) (ht : Tbl w) :
    Calls Tryz.prog 3 #[.int .u8 a0, .slice A l.length c] w fun e w' => e = .returned (.bool true) ∧ Kp (fun k => w.heap.size ≤ k) w w' := by
  have hgr := greatw_any h c hc hm
  have fin : ∀ {v v' : World}, Kp (fun _ => False) v v' → Kp (fun k => v.heap.size ≤ k) v v' := fun hk => hk.of_false
  by_cases hg : greatW l = true
  · rw [hg] at hgr
    clear h hg hm hc
    go_enter Tryz.func3, Tryz.ntmps3
    go_wp2_with fail
    refine hgr.mono ?_
    rintro e w' ⟨rfl, rfl⟩
    go_wp2_with fail
    refine (wakes_true _ ht).mono ?_
    rintro e w9 ⟨rfl, k9⟩
    have K9 := Lib.hid k9
    clear k9
    go_wp2_with fail
    go_ret
    exact ⟨rfl, fin K9.out⟩
  · have hg' : greatW l = false := Bool.eq_false_iff.2 hg
    by_cases hn : 90 ≤ a0 ∧ a0 ≤ 160
    · obtain ⟨n, rfl⟩ := Int.eq_ofNat_of_zero_le h0
      exact rplays_main n (by omega) (by omega) A l c w h hc hm hg' ht
    · rw [hg'] at hgr
      clear h hg hg' hm hc
      by_cases h2 : a0 < 90
      · clear hn
        go_enter Tryz.func3, Tryz.ntmps3
        go_wp2_with fail
        refine hgr.mono ?_
        rintro e w' ⟨rfl, rfl⟩
        go_wp2_with fail
        refine (wakes_true _ ht).mono ?_
        rintro e w9 ⟨rfl, k9⟩
        have K9 := Lib.hid k9
        clear k9
        go_wp2_with fail
        go_ret
        exact ⟨rfl, fin K9.out⟩
      · have h3 : 160 < a0 := by omega
        clear hn
        go_enter Tryz.func3, Tryz.ntmps3
        go_wp2_with fail
        refine hgr.mono ?_
        rintro e w' ⟨rfl, rfl⟩
        go_wp2_with fail
        refine (wakes_true _ ht).mono ?_
        rintro e w9 ⟨rfl, k9⟩
        have K9 := Lib.hid k9
        clear k9
        go_wp2_with fail
        go_ret
        exact ⟨rfl, fin K9.out⟩
end Go.Proofs.YtfcljcikajaedaaGreatDoor
