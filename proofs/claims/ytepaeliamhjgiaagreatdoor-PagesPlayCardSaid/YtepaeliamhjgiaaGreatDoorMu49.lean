/- The law of pages, part 49 of 55: PgWake. -/
import Derived.Test.YtepaeliamhjgiaaGreatDoorMu1
import Derived.Test.YtepaeliamhjgiaaGreatDoorMu48
import Derived.LaidEqlPtr
set_option maxHeartbeats 16000000
set_option maxRecDepth 100000
namespace Go.Proofs.YtepaeliamhjgiaaGreatDoor
open Go.RowKit Go.Maps Go.Shelf
theorem used_two : Bt.cntF (Bt.upd usedO 1 true) 128 = 2 := by decide +kernel
theorem least_one : Bt.Least usedO 128 1 := ⟨by decide, fun j hj => by
 have : j = 0 := by omega
 subst this
 rfl, fun _ => rfl⟩
theorem pwakes_true (w : World) (tb : Tbl w) (tbb : Bt.Tbl w) :
  Calls Tryz.prog 7 #[] w fun e w' => e = .returned (.bool true) /\ Kp (fun _ => False) w w' := by
 obtain ⟨IDK, hidk⟩ : ∃ j, Tryz.prog.info? 97 = some j := Option.isSome_iff_exists.1 (by kernel_rfl)
 have HIDK := hHd hidk
 clear hidk
 have TB0 := hHd tb
 have TBB0 := hHd tbb
 have TL0 := hHd (tbl_low tb)
 have TLB0 := hHd (btbl_low tbb)
 clear tb tbb
 go_enter Tryz.func7, Tryz.ntmps7
 go_wp2_with fail
 refine (begins_any 96 (by decide) (by decide) w TB0.out).mono ?_
 rintro e w1 ⟨gx, F, gs, gl, b, g1, g2, a, c, g, s, d, rfl, J, hu1, hu2, hlit, hgx, hgx2, hk1⟩
 have M1 := hHd J.m
 have S1 := hHd J.sto
 have ST1 := hHd J.st
 have RL1 := hHd J.rel
 have NT1 := hHd J.note
 have HU1 := hHd hu1
 have HU2 := hHd hu2
 have LIT := hHd hlit
 have K0 := hHd hk1
 have LOW := hHd J.m.low
 have LOW0 := hHd J.m.low
 have TB := hHd (TB0.out.kp hk1 (fun e => e))
 have TBB := hHd (TBB0.out.kp hk1 (fun e => e))
 have TL := hHd TL0.out
 have TLB := hHd TLB0.out
 clear J hu1 hu2 hlit hgx hgx2 hk1
 have y := M1.out.cells.2.1
 go_wp2_with fail
 have hal := palloc_any S1.out (by rw [ST1.out.hs]; decide) 1 (by rw [ST1.out.hs, HU2.out]; exact least_one) TBB.out (fun e => by have := M1.out.low _ e; have := TLB.out; omega)
 rw [allocS_yes ST1.out 1 (by decide)] at hal
 have hst2 := ST1.out.alloc 1 (by decide)
 have hrl2 := RL1.out.alloc ST1.out.hs 1 (by decide) (by decide) (by rw [HU2.out]; rfl)
 obtain ⟨s2, hs2e⟩ : ∃ s2, ({ (({ s with dead := false } : Sm).useS ((1 : Nat) : Int) true) with chg := ((({ s with dead := false } : Sm).useS ((1 : Nat) : Int) true).chg).put 1 zsec } : Sm) = s2 := ⟨_, rfl⟩
 rw [hs2e] at hal hst2 hrl2
 have HC2 := hHd (show s2.chg = ((bnone.put 0 (Bt.pageL (Bt.setF s.cused s.n ((1 : Nat) : Int) true))).put 1 zsec) by
  rw [<- hs2e]
  have : s.chg = bnone := RL1.out.chg.symm
  show ((s.chg.put 0 _).put 1 zsec) = _
  rw [this])
 have HCU2 := hHd (show s2.cused = Bt.upd usedO 1 true /\ s2.note = nB by
  rw [<- hs2e]
  refine ⟨?_, NT1.out⟩
  show Bt.setF s.cused s.n ((1 : Nat) : Int) true = _
  rw [HU2.out, ST1.out.hs]
  rfl)
 have ST2 := hHd hst2
 have RL2 := hHd hrl2
 refine hal.mono ?_
 clear hal y hst2 hrl2 hs2e
 rintro e w2 ⟨rfl, hs2, hk2⟩
 have M2 := hHd (M1.out.kp hk2)
 have S2 := hHd hs2
 have SUB2 := hHd (show ∀ k, F k -> F k from fun k e => e)
 have K2 := hHd hk2
 clear hs2 hk2
 go_upto_region 5 with fail
 have KX := hHd ((Kp.refl (fun _ => False) w2).drew)
 have CX := hHd (M2.out.still KX.out).cells.2.1
 refine wp_region_held_drew (S := fun v => v.cell? ⟨gx, 1, none⟩ = some (.pointer (some ⟨gs, 0, none⟩))) (by kernel_rfl) (CX.out) (fun hHeld => ?_)
 refine tk 0 (h := ?_)
 refine tk 1 (h := ?_)
 refine tk 2 (h := ?_)
 refine tk 3 (v := ?_) (hy := ?_) (h := ?_)
 rotate_left
 ·intro v hSw
  have y := hSw
  go_simp
  with_reducible rfl
 refine tk 6 (h := ?_)
 refine tk 7 (h := ?_)
 refine tk 8 (h := ?_)
 refine tk 9 (v := ?_) (hy := ?_) (h := ?_)
 rotate_left
 ·intro v hSw
  have y := hSw
  go_simp
  with_reducible rfl
 refine rd 4 (h := fun K hK => ?_)
 go_simp
 refine (full_any 97 _).mono ?_
 rintro e wf ⟨gb, rfl, hbf, hgf, hkf⟩
 have KF := hHd (KX.out.trans hkf)
 have BF := hHd hbf
 have GF := hHd hgf
 clear hbf hgf hkf
 go_wp2_with fail
 obtain ⟨F3, hF3⟩ : ∃ Fj, Thr F w2.heap.size wf.heap.size = Fj := ⟨_, rfl⟩
 have M3 := hHd (M2.out.thr KF.out)
 have S3 := hHd (S2.out.thr KF.out)
 rw [hF3] at M3 S3
 have SUB3 := hHd (show ∀ k, F3 k -> F k from fun k e => by rw [<- hF3] at e; exact SUB2.out k e.1)
 have OUT3 := hHd (show ∀ k, w2.heap.size <= k -> k < wf.heap.size -> ¬ F3 k from fun k h1 h2 e => by rw [<- hF3] at e; exact Thr.out h1 h2 e)
 have LE3 := hHd (show ∀ k, F3 k -> F k from fun k e => by rw [<- hF3] at e; exact e.1)
 clear hF3
 have CX3 := hHd M3.out.cells.2.1
 refine hK.out _ _ (CX3.out) (fun hHeld52 => ?_)
 clear hK K
 try simp only [Act.put, sIa, sI0, sI1]
 refine rd 5 (h := fun K hK => ?_)
 go_simp
 have hrd : Rd wf (some ⟨gb, 0, none⟩) (fullL 97) := (.inr ⟨gb, 0, rfl, fun j u hj => by
   rw [Nat.zero_add, BF.out.cell, List.getElem?_toArray]
   unfold bcs
   rw [List.getElem?_map, hj]
   rfl⟩)
 have hput := pputs_any S3.out M3.out.new 1 (some ⟨gb, 0, none⟩) (fullL 97) 512 hrd (fun ad e => by
  injection e with e
  rw [<- e]
  exact OUT3.out gb (Nat.le_trans KX.out.size GF.out) BF.out.lt)
 rw [fullL_length, show s2.putS d 1 (fullL 97) = ({ s2 with dead := false, chg := s2.chg.put 1 (fullL 97) }, 0) from putS_yes ST2.out 1 (fullL 97) (by decide) (by decide) (fullL_length _)] at hput
 refine hput.mono ?_
 clear hput hrd
 rintro e w4 ⟨rfl, hs4, hk4⟩
 have M4 := hHd (M3.out.kp hk4)
 have K4 := hHd ((K2.out.trans KF.out.of_false).trans (hk4.mono fun k _ e => SUB3.out k e))
 have hst := ST2.out.put 1 (fullL 97) (by decide) (fullL_length _)
 have hrl := RL2.out.put 1 (fullL 97) (by decide)
 obtain ⟨s4, hs4e⟩ : ∃ s4, ({ s2 with dead := false, chg := s2.chg.put 1 (fullL 97) } : Sm) = s4 := ⟨_, rfl⟩
 rw [hs4e] at hs4 hst hrl
 have S4 := hHd hs4
 have ST4 := hHd hst
 have RL4 := hHd hrl
 have HC4 := hHd (show s4.chg = s2.chg.put 1 (fullL 97) by rw [<- hs4e])
 have HU4 := hHd (show s4.cused = s2.cused /\ s4.note = s2.note by rw [<- hs4e]; exact ⟨rfl, rfl⟩)
 have CX4 := hHd M4.out.cells.2.1
 clear hs4 hk4 hst hrl hs4e
 go_wp2_with fail
 refine hK.out _ _ (CX4.out) (fun hHeld53 => ?_)
 clear hK K
 try simp only [Act.put, sIa, sI0, sI1]
 refine rd 10 (h := fun K hK => ?_)
 go_simp
 have T4 := (TB.out.kp K4.out (fun e => by have := LOW.out _ e; have := TL.out; omega))
 refine (commit_law S4.out ST4.out M4.out.new (fun e => by have := M4.out.low _ e; have := TL.out; omega) T4 (by decide)).mono ?_
 clear T4
 rintro e w5 ⟨hk5, h4⟩
 have hkeys : (s4.chg.keys 128) = [0, 1] := by
  rw [HC4.out, HC2.out]
  rfl
 have M5 := hHd (M4.out.kp hk5)
 have K5 := hHd (K4.out.trans (hk5.mono fun k _ e => SUB3.out k e))
 have CX5 := hHd M5.out.cells.2.1
 have HX4 : ∃ g1' g2' s' d', Sto F3 w5 gs gl b g1' g2' s' d' /\ St d' s' 96 128 hnB (nowC blankC s4.chg) 602 /\ s'.note = s4.note /\ s'.chg = bnone /\ d'.lit = false /\ e = .returned (.int .i64 0) := by
  rcases h4 with ⟨hk0, _⟩ | ⟨_, _, e0, g1', g2', s', d', q1, q2, q3, q4, q5, q6, q7⟩ | ⟨hk0, hgt, _⟩ | ⟨_, _, hl, _⟩
  ·rw [hkeys] at hk0
   cases hk0
  ·exact ⟨g1', g2', s', d', q1, q2, q3, q6, q7 LIT.out, e0⟩
  ·rw [need_text ST4.out.chg hk0, hkeys] at hgt
   exact absurd hgt (by decide)
  ·rw [LIT.out] at hl
   cases hl
 obtain ⟨g1', g2', s5, d5, hs5, hst5, hn5, hc5, hl5, rfl⟩ := HX4
 have S5 := hHd hs5
 have ST5 := hHd hst5
 have N5 := hHd hn5
 have LIT5 := hHd hl5
 clear hk5 h4 hkeys hs5 hst5 hn5 hc5 hl5
 go_wp2_with fail
 refine hK.out _ _ (CX5.out) (fun hHeld54 => ?_)
 clear hK K
 try simp only [Act.put, sIa, sI0, sI1]
 refine tk 11 (h := ?_)
 refine tk 12 (h := ?_)
 refine wpAnyH_done (by kernel_rfl) ?_ _
 clear hHeld KX KF BF GF CX CX3 CX4
 go_upto_region 6 with fail
 have KX := hHd ((Kp.refl (fun _ => False) w5).drew)
 have CX := hHd (M5.out.still KX.out).cells.2.1
 refine wp_region_held_drew (S := fun v => v.cell? ⟨gx, 1, none⟩ = some (.pointer (some ⟨gs, 0, none⟩))) (by kernel_rfl) (CX.out) (fun hHeld => ?_)
 refine tk 0 (h := ?_)
 refine tk 1 (h := ?_)
 refine tk 2 (h := ?_)
 refine tk 3 (v := ?_) (hy := ?_) (h := ?_)
 rotate_left
 ·intro v hSw
  have y := hSw
  go_simp
  with_reducible rfl
 refine rd 4 (h := fun K hK => ?_)
 go_simp
 refine (full_any 98 _).mono ?_
 rintro e wf ⟨gb, rfl, hbf, hgf, hkf⟩
 have KF := hHd (KX.out.trans hkf)
 have BF := hHd hbf
 have GF := hHd hgf
 clear hbf hgf hkf
 go_wp2_with fail
 obtain ⟨F6, hF6⟩ : ∃ Fj, Thr F3 w5.heap.size wf.heap.size = Fj := ⟨_, rfl⟩
 have M6 := hHd (M5.out.thr KF.out)
 have S6 := hHd (S5.out.thr KF.out)
 rw [hF6] at M6 S6
 have SUB6 := hHd (show ∀ k, F6 k -> F k from fun k e => by rw [<- hF6] at e; exact SUB3.out k e.1)
 have OUT6 := hHd (show ∀ k, w5.heap.size <= k -> k < wf.heap.size -> ¬ F6 k from fun k h1 h2 e => by rw [<- hF6] at e; exact Thr.out h1 h2 e)
 have LE6 := hHd (show ∀ k, F6 k -> F3 k from fun k e => by rw [<- hF6] at e; exact e.1)
 clear hF6
 have CX6 := hHd M6.out.cells.2.1
 refine hK.out _ _ (CX6.out) (fun hHeld55 => ?_)
 clear hK K
 try simp only [Act.put, sIa, sI0, sI1]
 refine rd 5 (h := fun K hK => ?_)
 go_simp
 have hrd : Rd wf (some ⟨gb, 0, none⟩) (fullL 98) := (.inr ⟨gb, 0, rfl, fun j u hj => by
   rw [Nat.zero_add, BF.out.cell, List.getElem?_toArray]
   unfold bcs
   rw [List.getElem?_map, hj]
   rfl⟩)
 have hput := pputs_any S6.out M6.out.new 1 (some ⟨gb, 0, none⟩) (fullL 98) 512 hrd (fun ad e => by
  injection e with e
  rw [<- e]
  exact OUT6.out gb (Nat.le_trans KX.out.size GF.out) BF.out.lt)
 rw [fullL_length, show s5.putS d5 1 (fullL 98) = ({ s5 with dead := false, chg := s5.chg.put 1 (fullL 98) }, 0) from putS_yes ST5.out 1 (fullL 98) (by decide) (by decide) (fullL_length _)] at hput
 refine hput.mono ?_
 clear hput hrd
 rintro e w7 ⟨rfl, hs7, hk7⟩
 have M7 := hHd (M6.out.kp hk7)
 have K7 := hHd ((K5.out.trans KF.out.of_false).trans (hk7.mono fun k _ e => SUB6.out k e))
 have hst := ST5.out.put 1 (fullL 98) (by decide) (fullL_length _)
 obtain ⟨s7, hs7e⟩ : ∃ s7, ({ s5 with dead := false, chg := s5.chg.put 1 (fullL 98) } : Sm) = s7 := ⟨_, rfl⟩
 rw [hs7e] at hs7 hst
 have S7 := hHd hs7
 have ST7 := hHd hst
 have CX7 := hHd M7.out.cells.2.1
 clear hs7 hk7 hst hs7e
 go_wp2_with fail
 refine hK.out _ _ (CX7.out) (fun hHeld56 => ?_)
 clear hK K
 try simp only [Act.put, sIa, sI0, sI1]
 refine tk 6 (h := ?_)
 refine wpAnyH_done (by kernel_rfl) ?_ _
 clear hHeld KX KF BF GF CX CX6
 have y := M7.out.cells.1
 go_wp2_with fail
 have T7 := (TB.out.kp K7.out (fun e => by have := LOW.out _ e; have := TL.out; omega))
 have hop := open_law (F := F6) M7.out.new (fun e => by have := M7.out.low _ e; have := TL.out; omega) (S7.out.dk.mono fun k e => e.1) T7 ST7.out.up ST7.out.rc (RL4.out.cmNow (by decide)) (by decide) (by decide) (by decide)
 refine hop.mono ?_
 clear hop T7 y
 rintro e w8 ⟨hk8, ⟨gs8, gl8, g18, g28, s8, d8, rfl, hsto, hst, n1, n2, n3, n4, hlit⟩ | ⟨d', _, hl, _⟩⟩
 ·have S8 := hHd hsto
  have ST8 := hHd hst
  have M8 := hHd (M7.out.kp hk8)
  have K8 := hHd (K7.out.trans (hk8.mono fun k _ e => SUB6.out k e))
  have N8 := hHd n1
  have HC8 := hHd n4
  have HU8 := hHd n3
  clear hsto hst n1 n2 n3 n4 hlit hk8
  go_wp2_with fail
  have hp := ppages_read S8.out (by rw [ST8.out.hL]; decide) 1
  rw [show s8.pageS d8 1 = (s8, nowC (nowC blankC s4.chg) s8.chg 1, 0) from pageS_yes ST8.out 1 (by decide)] at hp
  have hfl : nowC (nowC blankC s4.chg) s8.chg 1 = fullL 97 := by
   rw [HC8.out]
   show nowC blankC s4.chg 1 = _
   rw [HC4.out]
   rfl
  rw [hfl] at hp
  refine hp.mono ?_
  clear hp hfl
  rintro e w9 ⟨A9, c9, rfl, hrd, hs9, hk9⟩
  have S9 := hHd hs9
  have ST9 := hHd ST8.out
  have N9 := hHd N8.out
  have M9 := hHd (M8.out.kp hk9)
  have K9 := hHd (K8.out.trans (hk9.mono fun k _ e => SUB6.out k e))
  have RD9 := hHd hrd
  have HCN := hHd (show Bt.cntF s8.cused 128 = 2 by rw [HU8.out, HU4.out.1, HCU2.out.1]; exact used_two)
  obtain ⟨sa, hsa⟩ : ∃ sa : ByteArray, (⟨(fullL 97).toArray⟩ : ByteArray) = sa := ⟨_, rfl⟩
  have HSA := hHd hsa
  rw [fullL_length]
  clear hrd hs9 hk9 hsa
  go_upto_region 9 with fail
  have KX := hHd ((Kp.refl (fun _ => False) w9).drew)
  refine wp_region_held_drew (S := fun v => v.cell? ⟨gx, 0, none⟩ = some (.pointer (some ⟨b, 0, none⟩)) /\ Rd v A9 (fullL 97)) (by kernel_rfl) (⟨(M9.out.still KX.out).cells.1, RD9.out.kp KX.out (fun _ _ e => e)⟩) (fun hHeld => ?_)
  refine tk 0 (h := ?_)
  refine tk 1 (h := ?_)
  refine tk 2 (h := ?_)
  refine tk 3 (h := ?_)
  refine tk 4 (h := ?_)
  refine tk 5 (h := ?_)
  refine tk 6 (h := ?_)
  refine tk 7 (h := ?_)
  refine tk 8 (h := ?_)
  refine tk 9 (h := ?_)
  refine tk 10 (h := ?_)
  refine tk 11 (h := ?_)
  refine tk 12 (h := ?_)
  refine tk 13 (h := ?_)
  refine tk 14 (h := ?_)
  refine tk 15 (h := ?_)
  refine tk 16 (h := ?_)
  refine tk 17 (h := ?_)
  refine tk 18 (h := ?_)
  refine tk 19 (h := ?_)
  refine tk 20 (h := ?_)
  refine tk 21 (h := ?_)
  refine tk 22 (h := ?_)
  refine tk 23 (h := ?_)
  refine tk 24 (h := ?_)
  refine tk 25 (h := ?_)
  refine tk 26 (h := ?_)
  refine tk 27 (h := ?_)
  refine tk 28 (v := ?_) (hy := ?_) (h := ?_)
  rotate_left
  ·intro v hSw
   have ht := hSw.2.text (P := Tryz.prog) 50 9 5 c9 Tryz.underlying50 Tryz.underlying5 Tryz.underlying9
   rw [fullL_length, HSA.out] at ht
   go_simp
   with_reducible rfl
  refine rd 29 (h := fun K hK => ?_)
  go_simp
  refine (full_any 97 _).mono ?_
  rintro e wf ⟨gb, rfl, hbf, hgf, hkf⟩
  have BF := hHd hbf
  have KQ := hHd (KX.out.trans hkf)
  clear hbf hgf hkf KX
  have KX := hHd KQ.out
  clear KQ
  go_wp2_with fail
  refine hK.out _ _ (⟨(M9.out.still KX.out).cells.1, RD9.out.kp KX.out (fun _ _ e => e)⟩) (fun hHeld57 => ?_)
  clear hK K
  try simp only [Act.put, sIa, sI0, sI1]
  refine rd 30 (h := fun K hK => ?_)
  have hrd : Rd wf (some ⟨gb, 0, none⟩) (fullL 97) := (.inr ⟨gb, 0, rfl, fun j u hj => by
    rw [Nat.zero_add, BF.out.cell, List.getElem?_toArray]
    unfold bcs
    rw [List.getElem?_map, hj]
    rfl⟩)
  have ht := hrd.text (P := Tryz.prog) 50 9 5 512 Tryz.underlying50 Tryz.underlying5 Tryz.underlying9
  rw [fullL_length, HSA.out] at ht
  go_simp
  clear ht hrd
  refine hK.out _ _ (⟨(M9.out.still KX.out).cells.1, RD9.out.kp KX.out (fun _ _ e => e)⟩) (fun hHeld58 => ?_)
  clear hK K
  try simp only [Act.put, sIa, sI0, sI1]
  refine tk 31 (h := ?_)
  refine tk 32 (h := ?_)
  refine tk 33 (h := ?_)
  refine tk 34 (h := ?_)
  refine rd 35 (h := fun K hK => ?_)
  go_simp
  have hu := pused_sto (S9.out.still KX.out)
  rw [ST9.out.hs, HCN.out] at hu
  refine hu.mono ?_
  clear hu
  rintro e wq ⟨rfl, hkq⟩
  have KQ := hHd (KX.out.trans hkq)
  clear hkq KX
  have KX := hHd KQ.out
  clear KQ
  go_wp2_with fail
  refine hK.out _ _ (⟨(M9.out.still KX.out).cells.1, RD9.out.kp KX.out (fun _ _ e => e)⟩) (fun hHeld59 => ?_)
  clear hK K
  try simp only [Act.put, sIa, sI0, sI1]
  refine tk 36 (h := ?_)
  refine tk 37 (h := ?_)
  refine tk 38 (h := ?_)
  refine tk 39 (h := ?_)
  refine rd 40 (h := fun K hK => ?_)
  go_simp
  have hu := pnote_sto (S9.out.still KX.out)
  rw [N9.out] at hu
  refine hu.mono ?_
  clear hu
  rintro e wq ⟨rfl, rfl⟩
  go_wp2_with fail
  refine hK.out _ _ (⟨(M9.out.still KX.out).cells.1, RD9.out.kp KX.out (fun _ _ e => e)⟩) (fun hHeld60 => ?_)
  clear hK K
  try simp only [Act.put, sIa, sI0, sI1]
  refine tk 41 (h := ?_)
  refine tk 42 (h := ?_)
  refine tk 43 (h := ?_)
  refine tk 44 (h := ?_)
  refine rd 45 (h := fun K hK => ?_)
  go_simp
  have hu := ppages_any (S9.out.still KX.out)
  rw [ST9.out.hs] at hu
  refine hu.mono ?_
  clear hu
  rintro e wq ⟨rfl, hkq⟩
  have KQ := hHd (KX.out.trans hkq)
  clear hkq KX
  have KX := hHd KQ.out
  clear KQ
  go_wp2_with fail
  refine hK.out _ _ (⟨(M9.out.still KX.out).cells.1, RD9.out.kp KX.out (fun _ _ e => e)⟩) (fun hHeld61 => ?_)
  clear hK K
  try simp only [Act.put, sIa, sI0, sI1]
  refine tk 46 (h := ?_)
  refine tk 47 (h := ?_)
  refine tk 48 (h := ?_)
  refine tk 49 (h := ?_)
  refine rd 50 (h := fun K hK => ?_)
  go_simp
  have hu := pbehind_sto (S9.out.still KX.out) (by rw [ST9.out.hL]; decide)
  rw [ST9.out.hL, ST9.out.hs] at hu
  refine hu.mono ?_
  clear hu
  rintro e wq ⟨rfl, hkq⟩
  have KQ := hHd (KX.out.trans hkq)
  clear hkq KX
  have KX := hHd KQ.out
  clear KQ
  go_wp2_with fail
  refine hK.out _ _ (⟨(M9.out.still KX.out).cells.1, RD9.out.kp KX.out (fun _ _ e => e)⟩) (fun hHeld62 => ?_)
  clear hK K
  try simp only [Act.put, sIa, sI0, sI1]
  refine tk 51 (h := ?_)
  refine tk 52 (h := ?_)
  refine tk 53 (h := ?_)
  refine tk 54 (h := ?_)
  refine tk 56 (h := ?_)
  refine tk 57 (h := ?_)
  refine tk 58 (h := ?_)
  refine tk 59 (v := ?_) (hy := ?_) (h := ?_)
  rotate_left
  ·intro v hSw
   have y := hSw.1
   go_simp
   with_reducible rfl
  refine rd 55 (h := fun K hK => ?_)
  go_simp
  refine (pdisk_sto (S9.out.still KX.out)).mono ?_
  rintro e wq ⟨rfl, rfl⟩
  go_wp2_with fail
  refine hK.out _ _ (⟨(M9.out.still KX.out).cells.1, RD9.out.kp KX.out (fun _ _ e => e)⟩) (fun hHeld63 => ?_)
  clear hK K
  try simp only [Act.put, sIa, sI0, sI1]
  refine tk 60 (v := ?_) (hy := ?_) (h := ?_)
  rotate_left
  ·intro v hSw
   have hq := run_eql_ptr_same (P := Tryz.prog) v (tp := 35) (te := 97) (j := IDK) ⟨b, 0, none⟩ Tryz.underlying35 HIDK.out
   go_simp
   with_reducible rfl
  refine tk 61 (h := ?_)
  refine tk 62 (h := ?_)
  refine wpAnyH_done (by kernel_rfl) ?_ _
  clear hHeld
  go_wp2_with fail
  go_ret
  exact ⟨rfl, K0.out.trans_new (K9.out.trans KX.out.of_false) (fun k e => .inl (LOW0.out k e))⟩
 ·exact absurd (hl.symm.trans LIT5.out) (by decide)
end Go.Proofs.YtepaeliamhjgiaaGreatDoor
