/- The law of pages, part 46 of 55: PgD3 PgD1. -/
import Derived.Test.YtepaeliamhjgiaaGreatDoorMu1
import Derived.Test.YtepaeliamhjgiaaGreatDoorMu44
set_option maxHeartbeats 16000000
set_option maxRecDepth 100000
namespace Go.Proofs.YtepaeliamhjgiaaGreatDoor
open Go.RowKit Go.Maps Go.Shelf
section
variable {B : Nat} {F : Nat -> Prop} {w : World} {gx gs gl b g1 g2 a c g L N : Nat} {s : Sm} {d : Dm} {R : Rs} {C : Nat -> List UInt8}
theorem does3 (J : Jx B F w gx gs gl b g1 g2 a c g L N s d R C) (hN : N + 2000 < 18446744073709551616) (x : Aw) (ok : x.Ok) (hd : x.d = 3) (tb : Tbl w) (hB : 1 < B) (hgx : B <= gx) :
  Calls Tryz.prog 9 #[.pointer (some ⟨gx, 0, none⟩), .agg x.cells] w fun e w' => Kp (fun k => F k \/ k = gx) w w' /\ DidOk B F w' gx b L N d R C true e := by
 have HNN := hHd hN
 have ST := hHd J.st
 have RL := hHd J.rel
 have NT := hHd J.note
 have OKX := hHd ok
 obtain ⟨W, hW, ba, kW⟩ : ∃ W, W = w.alloc (.cells x.cells 30) /\ Box W w.heap.size 30 x.cells /\ Kp (fun _ => False) w W := ⟨_, rfl, Box.new w _ _, (Kp.refl _ w).alloc _⟩
 have HW := hHd hW
 have M9 := hHd J.m
 have S9 := hHd J.sto
 have SUB9 := hHd (show ∀ k, F k -> F k from fun k e => e)
 have hgl := ba.lt
 obtain ⟨F0, hF0⟩ : ∃ Fj, Thr F w.heap.size W.heap.size = Fj := ⟨_, rfl⟩
 have M0 := hHd (M9.out.thr kW)
 have S0 := hHd (S9.out.thr kW)
 rw [hF0] at M0 S0
 have SUB0 := hHd (show ∀ k, F0 k -> F k from fun k e => by rw [<- hF0] at e; exact SUB9.out k e.1)
 have OUT0 := hHd (show ∀ k, w.heap.size <= k -> k < W.heap.size -> ¬ F0 k from fun k h1 h2 e => by rw [<- hF0] at e; exact Thr.out h1 h2 e)
 have LE0 := hHd (show ∀ k, F0 k -> F k from fun k e => by rw [<- hF0] at e; exact e.1)
 clear hF0
 obtain ⟨ga, hga⟩ : ∃ ga, w.heap.size = ga := ⟨_, rfl⟩
 have NA0 := hHd (show ¬ F0 ga from OUT0.out ga (by omega) (by omega))
 rw [hga] at ba
 have A0 := hHd ba
 have K0 := hHd (kW.of_false (S := fun k => F k \/ k = gx))
 have HGA := hHd hga
 have TB := hHd tb
 have LOW := hHd J.m.low
 have GXB := hHd hgx
 have HB := hHd hB
 have hnk : (R.chg.keys R.pg.length) = s.chg.keys 128 := by rw [J.rel.len, J.rel.chg]
 have HNK := hHd hnk
 obtain ⟨nd, hnd⟩ : ∃ nd, (514 * (R.chg.keys R.pg.length).length + 496) / 497 = nd := ⟨_, rfl⟩
 have HND := hHd hnd
 clear hnk hnd
 clear J hN ok hW ba kW M9 S9 SUB9 hgl hga
 go_enter Tryz.func9, Tryz.ntmps9
 go_upto_region 1 with fail
 rw [<- HW.out]
 try rw [HGA.out]
 have y0 : W.cell? ⟨ga, 0, none⟩ = some (.int .u8 3) := by
  have := A0.out.cell 0
  rw [this]
  show some (Value.int .u8 x.d) = _
  rw [hd]
 clear hd tb hB hgx
 have y := M0.out.cells.2.1
 go_wp2_with fail
 have T0 := TB.out.kp K0.out (fun e => e.elim (fun e => by have := LOW.out _ e; have := HB.out; omega) (fun e => by have := GXB.out; have := HB.out; omega))
 refine (commit_law S0.out ST.out M0.out.new (fun e => by have := M0.out.low _ e; have := HB.out; omega) T0 HNN.out).mono ?_
 rintro e w1 ⟨hk1, h4⟩
 have M1 := hHd (M0.out.kp hk1)
 have K1 := hHd (K0.out.trans (hk1.mono fun k _ e => .inl (SUB0.out k e)))
 have SUB1 := hHd SUB0.out
 obtain ⟨F1, hF1⟩ : ∃ F1, F0 = F1 := ⟨_, rfl⟩
 rw [hF1] at M1 SUB1 h4
 clear hk1 y y0 hF1 T0
 rcases h4 with ⟨hk0, rfl, g1', g2', hs1⟩ | ⟨hk0, hle, rfl, g1', g2', s', d', hs1, hst', e1, e2, e3, e4, hlit⟩ | ⟨hk0, hgt, rfl, g1', g2', hs1⟩ | ⟨hk0, rfl, hlit, d', hdk, hoff, hrc⟩
 ·have S1 := hHd hs1
  have HK0 := hHd hk0
  have hl : ¬ (L : Int) < (nd : Int) := by
   have := HND.out
   rw [HNK.out, hk0] at this
   have : nd = 0 := by rw [<- this]; rfl
   omega
  clear hs1 hk0
  go_upto_region 21 with fail
  have KX := hHd ((Kp.refl (fun _ => False) w1).drew)
  refine wp_region_held_drew (S := fun v => v.cell? ⟨gx, 4, none⟩ = some (.int .i64 (L : Int)) /\ v.rangeAt gx 2 (rsV a c g R)) (by kernel_rfl) (⟨M1.out.cells.2.2.2.2, M1.out.rs⟩) (fun hHeld => ?_)
  refine tk 0 (h := ?_)
  refine tk 1 (h := ?_)
  refine tk 2 (h := ?_)
  refine tk 3 (hy := fun v hSw => exec_load_mid 39 (.tmp 143) rfl gx 2 rfl (rsV a c g R) _ hSw.2 Tryz.underlying39 rfl (infoRs _ _ _ _)) (h := ?_)
  refine tk 5 (h := ?_)
  refine tk 6 (h := ?_)
  refine tk 7 (h := ?_)
  refine tk 8 (v := ?_) (hy := ?_) (h := ?_)
  rotate_left
  ·intro v hSw
   have y := hSw.1
   go_simp
   with_reducible rfl
  refine rd 4 (h := fun K hK => ?_)
  go_simp
  have hnd := rneed_any (M1.out.rv.still KX.out)
  rw [HND.out] at hnd
  refine hnd.mono ?_
  clear hnd
  rintro e w2 ⟨rfl, hk2⟩
  have kk := KX.out.trans hk2
  have M2 := hHd (M1.out.still kk)
  have S2 := hHd (S1.out.still kk)
  have K2 := hHd (K1.out.trans kk.of_false)
  clear hk2 kk
  go_wp2_with fail
  refine hK.out _ _ (⟨M2.out.cells.2.2.2.2, M2.out.rs⟩) (fun hHeld47 => ?_)
  clear hK K
  try simp only [Act.put, sIa, sI0, sI1]
  refine tk 9 (h := ?_)
  refine wpAnyH_done (by kernel_rfl) ?_ _
  clear hHeld KX
  go_wp2_with (first | (refine wpList_load_mid rfl 39 (.tmp 162) rfl gx 2 rfl (rsV a c g R) _ M2.out.rs Tryz.underlying39 rfl (infoRs _ _ _ _) ?_) | fail)
  refine (rcommit_any M2.out.rv).mono ?_
  rintro e w5 ⟨a', c', g', rfl, hr, ha', hg', hk5⟩
  obtain ⟨F3, hF3⟩ : ∃ Fj, Thr F1 w2.heap.size w5.heap.size = Fj := ⟨_, rfl⟩
  have M3 := hHd (M2.out.thr hk5)
  have S3 := hHd (S2.out.thr hk5)
  rw [hF3] at M3 S3
  have SUB3 := hHd (show ∀ k, F3 k -> F k from fun k e => by rw [<- hF3] at e; exact SUB1.out k e.1)
  have OUT3 := hHd (show ∀ k, w2.heap.size <= k -> k < w5.heap.size -> ¬ F3 k from fun k h1 h2 e => by rw [<- hF3] at e; exact Thr.out h1 h2 e)
  have LE3 := hHd (show ∀ k, F3 k -> F1 k from fun k e => by rw [<- hF3] at e; exact e.1)
  clear hF3
  have R3 := hHd hr
  have NA := hHd (OUT3.out a' ha' hr.lt.1)
  have NG := hHd (OUT3.out g' hg' hr.lt.2)
  have K5 := hHd (K2.out.trans hk5.of_false)
  clear hr hg' hk5
  go_wp2_with (first | (refine wpList_store_part rfl 39 (.tmp 166) (.tmp 164) rfl gx [.pointer (some ⟨b, 0, none⟩), .pointer (some ⟨gs, 0, none⟩)] (rsV a c g R) (rsV a' c' g' R.comR) [.int .i64 (L : Int)] rfl rfl M3.out.x rfl (infoRs _ _ _ _) (rsV_one _ _ _ _) ?_; intro w6 hb6 hk6) | fail)
  have M6 := hHd (M3.out.told R3.out NA.out NG.out hb6 hk6)
  have S6 := hHd (S3.out.off M3.out.fx hk6)
  have K6 := hHd (K5.out.trans (hk6.mono fun k _ e => .inr e))
  clear hb6 hk6
  go_ret
  have hcb := bnone_of ST.out.chg HK0.out
  exact ⟨K6.out, F3, SUB3.out, .inl ⟨rfl, gs, gl, g1', g2', a', c', g', s, d, _, C, ⟨M6.out, S6.out, ST.out.mono (by omega), RL.out.still (by decide) hcb, NT.out⟩, .inl rfl, fun h => h⟩⟩
 ·have S1 := hHd hs1
  have HST := hHd hst'
  have E1 := hHd e1
  have E2 := hHd e2
  have E3 := hHd e3
  have E4 := hHd e4
  have HLT := hHd hlit
  have hl : ¬ (L : Int) < (nd : Int) := by
   have := HND.out
   rw [HNK.out, <- need_text ST.out.chg hk0] at this
   omega
  clear hs1 hk0 hle hst' e1 e2 e3 e4 hlit
  go_upto_region 21 with fail
  have KX := hHd ((Kp.refl (fun _ => False) w1).drew)
  refine wp_region_held_drew (S := fun v => v.cell? ⟨gx, 4, none⟩ = some (.int .i64 (L : Int)) /\ v.rangeAt gx 2 (rsV a c g R)) (by kernel_rfl) (⟨M1.out.cells.2.2.2.2, M1.out.rs⟩) (fun hHeld => ?_)
  refine tk 0 (h := ?_)
  refine tk 1 (h := ?_)
  refine tk 2 (h := ?_)
  refine tk 3 (hy := fun v hSw => exec_load_mid 39 (.tmp 143) rfl gx 2 rfl (rsV a c g R) _ hSw.2 Tryz.underlying39 rfl (infoRs _ _ _ _)) (h := ?_)
  refine tk 5 (h := ?_)
  refine tk 6 (h := ?_)
  refine tk 7 (h := ?_)
  refine tk 8 (v := ?_) (hy := ?_) (h := ?_)
  rotate_left
  ·intro v hSw
   have y := hSw.1
   go_simp
   with_reducible rfl
  refine rd 4 (h := fun K hK => ?_)
  go_simp
  have hnd := rneed_any (M1.out.rv.still KX.out)
  rw [HND.out] at hnd
  refine hnd.mono ?_
  clear hnd
  rintro e w2 ⟨rfl, hk2⟩
  have kk := KX.out.trans hk2
  have M2 := hHd (M1.out.still kk)
  have S2 := hHd (S1.out.still kk)
  have K2 := hHd (K1.out.trans kk.of_false)
  clear hk2 kk
  go_wp2_with fail
  refine hK.out _ _ (⟨M2.out.cells.2.2.2.2, M2.out.rs⟩) (fun hHeld48 => ?_)
  clear hK K
  try simp only [Act.put, sIa, sI0, sI1]
  refine tk 9 (h := ?_)
  refine wpAnyH_done (by kernel_rfl) ?_ _
  clear hHeld KX
  go_wp2_with (first | (refine wpList_load_mid rfl 39 (.tmp 162) rfl gx 2 rfl (rsV a c g R) _ M2.out.rs Tryz.underlying39 rfl (infoRs _ _ _ _) ?_) | fail)
  refine (rcommit_any M2.out.rv).mono ?_
  rintro e w5 ⟨a', c', g', rfl, hr, ha', hg', hk5⟩
  obtain ⟨F3, hF3⟩ : ∃ Fj, Thr F1 w2.heap.size w5.heap.size = Fj := ⟨_, rfl⟩
  have M3 := hHd (M2.out.thr hk5)
  have S3 := hHd (S2.out.thr hk5)
  rw [hF3] at M3 S3
  have SUB3 := hHd (show ∀ k, F3 k -> F k from fun k e => by rw [<- hF3] at e; exact SUB1.out k e.1)
  have OUT3 := hHd (show ∀ k, w2.heap.size <= k -> k < w5.heap.size -> ¬ F3 k from fun k h1 h2 e => by rw [<- hF3] at e; exact Thr.out h1 h2 e)
  have LE3 := hHd (show ∀ k, F3 k -> F1 k from fun k e => by rw [<- hF3] at e; exact e.1)
  clear hF3
  have R3 := hHd hr
  have NA := hHd (OUT3.out a' ha' hr.lt.1)
  have NG := hHd (OUT3.out g' hg' hr.lt.2)
  have K5 := hHd (K2.out.trans hk5.of_false)
  clear hr hg' hk5
  go_wp2_with (first | (refine wpList_store_part rfl 39 (.tmp 166) (.tmp 164) rfl gx [.pointer (some ⟨b, 0, none⟩), .pointer (some ⟨gs, 0, none⟩)] (rsV a c g R) (rsV a' c' g' R.comR) [.int .i64 (L : Int)] rfl rfl M3.out.x rfl (infoRs _ _ _ _) (rsV_one _ _ _ _) ?_; intro w6 hb6 hk6) | fail)
  have M6 := hHd (M3.out.told R3.out NA.out NG.out hb6 hk6)
  have S6 := hHd (S3.out.off M3.out.fx hk6)
  have K6 := hHd (K5.out.trans (hk6.mono fun k _ e => .inr e))
  clear hb6 hk6
  go_ret
  exact ⟨K6.out, F3, SUB3.out, .inl ⟨rfl, gs, gl, g1', g2', a', c', g', s', d', _, _, ⟨M6.out, S6.out, HST.out, RL.out.commit (by decide) E2.out E3.out E4.out, E1.out.trans NT.out⟩, .inr ⟨rfl, by rw [RL.out.chg]⟩, HLT.out⟩⟩
 ·have S1 := hHd hs1
  have hl : (L : Int) < (nd : Int) := by
   have := HND.out
   rw [HNK.out, <- need_text ST.out.chg hk0] at this
   omega
  clear hs1 hk0 hgt
  go_upto_region 21 with fail
  have KX := hHd ((Kp.refl (fun _ => False) w1).drew)
  refine wp_region_held_drew (S := fun v => v.cell? ⟨gx, 4, none⟩ = some (.int .i64 (L : Int)) /\ v.rangeAt gx 2 (rsV a c g R)) (by kernel_rfl) (⟨M1.out.cells.2.2.2.2, M1.out.rs⟩) (fun hHeld => ?_)
  refine tk 0 (h := ?_)
  refine tk 1 (h := ?_)
  refine tk 2 (h := ?_)
  refine tk 3 (hy := fun v hSw => exec_load_mid 39 (.tmp 143) rfl gx 2 rfl (rsV a c g R) _ hSw.2 Tryz.underlying39 rfl (infoRs _ _ _ _)) (h := ?_)
  refine tk 5 (h := ?_)
  refine tk 6 (h := ?_)
  refine tk 7 (h := ?_)
  refine tk 8 (v := ?_) (hy := ?_) (h := ?_)
  rotate_left
  ·intro v hSw
   have y := hSw.1
   go_simp
   with_reducible rfl
  refine rd 4 (h := fun K hK => ?_)
  go_simp
  have hnd := rneed_any (M1.out.rv.still KX.out)
  rw [HND.out] at hnd
  refine hnd.mono ?_
  clear hnd
  rintro e w2 ⟨rfl, hk2⟩
  have kk := KX.out.trans hk2
  have M2 := hHd (M1.out.still kk)
  have S2 := hHd (S1.out.still kk)
  have K2 := hHd (K1.out.trans kk.of_false)
  clear hk2 kk
  go_wp2_with fail
  refine hK.out _ _ (⟨M2.out.cells.2.2.2.2, M2.out.rs⟩) (fun hHeld49 => ?_)
  clear hK K
  try simp only [Act.put, sIa, sI0, sI1]
  refine tk 9 (h := ?_)
  refine wpAnyH_done (by kernel_rfl) ?_ _
  clear hHeld KX
  go_wp2_with (first | (refine wpList_load_mid rfl 39 (.tmp 154) rfl gx 2 rfl (rsV a c g R) _ M2.out.rs Tryz.underlying39 rfl (infoRs _ _ _ _) ?_) | fail)
  refine (rabort_any M2.out.rv).mono ?_
  rintro e w5 ⟨g', rfl, hr, hg', hk5⟩
  obtain ⟨F3, hF3⟩ : ∃ Fj, Thr F1 w2.heap.size w5.heap.size = Fj := ⟨_, rfl⟩
  have M3 := hHd (M2.out.thr hk5)
  have S3 := hHd (S2.out.thr hk5)
  rw [hF3] at M3 S3
  have SUB3 := hHd (show ∀ k, F3 k -> F k from fun k e => by rw [<- hF3] at e; exact SUB1.out k e.1)
  have OUT3 := hHd (show ∀ k, w2.heap.size <= k -> k < w5.heap.size -> ¬ F3 k from fun k h1 h2 e => by rw [<- hF3] at e; exact Thr.out h1 h2 e)
  have LE3 := hHd (show ∀ k, F3 k -> F1 k from fun k e => by rw [<- hF3] at e; exact e.1)
  clear hF3
  have R3 := hHd hr
  have NG := hHd (OUT3.out g' hg' hr.lt.2)
  have K5 := hHd (K2.out.trans hk5.of_false)
  clear hr hg' hk5
  go_wp2_with (first | (refine wpList_store_part rfl 39 (.tmp 158) (.tmp 156) rfl gx [.pointer (some ⟨b, 0, none⟩), .pointer (some ⟨gs, 0, none⟩)] (rsV a c g R) (rsV a c g' ⟨R.pg, bnone⟩) [.int .i64 (L : Int)] rfl rfl M3.out.x rfl (infoRs _ _ _ _) (rsV_one _ _ _ _) ?_; intro w6 hb6 hk6) | fail)
  have M6 := hHd (M3.out.told R3.out M3.out.fa NG.out hb6 hk6)
  have S6 := hHd (S3.out.off M3.out.fx hk6)
  have K6 := hHd (K5.out.trans (hk6.mono fun k _ e => .inr e))
  clear hb6 hk6
  go_ret
  exact ⟨K6.out, F3, SUB3.out, .inl ⟨rfl, gs, gl, g1', g2', a, c, g', s.abortS, d, _, C, ⟨M6.out, S6.out, ST.out.abort.mono (by omega), RL.out.abort (by decide), NT.out⟩, .inl rfl, fun h => h⟩⟩
 ·have D1 := hHd hdk
  have HOF := hHd hoff
  have HRC := hHd hrc
  have HLT := hHd hlit
  clear hdk hoff hrc hlit hk0
  by_cases hl : (L : Int) < (nd : Int)
  ·go_upto_region 21 with fail
   have KX := hHd ((Kp.refl (fun _ => False) w1).drew)
   refine wp_region_held_drew (S := fun v => v.cell? ⟨gx, 4, none⟩ = some (.int .i64 (L : Int)) /\ v.rangeAt gx 2 (rsV a c g R)) (by kernel_rfl) (⟨M1.out.cells.2.2.2.2, M1.out.rs⟩) (fun hHeld => ?_)
   refine tk 0 (h := ?_)
   refine tk 1 (h := ?_)
   refine tk 2 (h := ?_)
   refine tk 3 (hy := fun v hSw => exec_load_mid 39 (.tmp 143) rfl gx 2 rfl (rsV a c g R) _ hSw.2 Tryz.underlying39 rfl (infoRs _ _ _ _)) (h := ?_)
   refine tk 5 (h := ?_)
   refine tk 6 (h := ?_)
   refine tk 7 (h := ?_)
   refine tk 8 (v := ?_) (hy := ?_) (h := ?_)
   rotate_left
   ·intro v hSw
    have y := hSw.1
    go_simp
    with_reducible rfl
   refine rd 4 (h := fun K hK => ?_)
   go_simp
   have hnd := rneed_any (M1.out.rv.still KX.out)
   rw [HND.out] at hnd
   refine hnd.mono ?_
   clear hnd
   rintro e w2 ⟨rfl, hk2⟩
   have kk := KX.out.trans hk2
   have M2 := hHd (M1.out.still kk)
   have D2 := hHd (D1.out.still kk)
   have K2 := hHd (K1.out.trans kk.of_false)
   clear hk2 kk
   go_wp2_with fail
   refine hK.out _ _ (⟨M2.out.cells.2.2.2.2, M2.out.rs⟩) (fun hHeld50 => ?_)
   clear hK K
   try simp only [Act.put, sIa, sI0, sI1]
   refine tk 9 (h := ?_)
   refine wpAnyH_done (by kernel_rfl) ?_ _
   clear hHeld KX
   go_wp2_with (first | (refine wpList_load_mid rfl 39 (.tmp 154) rfl gx 2 rfl (rsV a c g R) _ M2.out.rs Tryz.underlying39 rfl (infoRs _ _ _ _) ?_) | fail)
   refine (rabort_any M2.out.rv).mono ?_
   rintro e w5 ⟨g', rfl, hr, hg', hk5⟩
   obtain ⟨F3, hF3⟩ : ∃ Fj, Thr F1 w2.heap.size w5.heap.size = Fj := ⟨_, rfl⟩
   have M3 := hHd (M2.out.thr hk5)
   have D3 := hHd (D2.out.thr hk5)
   rw [hF3] at M3 D3
   have SUB3 := hHd (show ∀ k, F3 k -> F k from fun k e => by rw [<- hF3] at e; exact SUB1.out k e.1)
   have OUT3 := hHd (show ∀ k, w2.heap.size <= k -> k < w5.heap.size -> ¬ F3 k from fun k h1 h2 e => by rw [<- hF3] at e; exact Thr.out h1 h2 e)
   have LE3 := hHd (show ∀ k, F3 k -> F1 k from fun k e => by rw [<- hF3] at e; exact e.1)
   clear hF3
   have R3 := hHd hr
   have NG := hHd (OUT3.out g' hg' hr.lt.2)
   have K5 := hHd (K2.out.trans hk5.of_false)
   clear hr hg' hk5
   go_wp2_with (first | (refine wpList_store_part rfl 39 (.tmp 158) (.tmp 156) rfl gx [.pointer (some ⟨b, 0, none⟩), .pointer (some ⟨gs, 0, none⟩)] (rsV a c g R) (rsV a c g' ⟨R.pg, bnone⟩) [.int .i64 (L : Int)] rfl rfl M3.out.x rfl (infoRs _ _ _ _) (rsV_one _ _ _ _) ?_; intro w6 hb6 hk6) | fail)
   have M6 := hHd (M3.out.told R3.out M3.out.fa NG.out hb6 hk6)
   have D6 := hHd (D3.out.offx M3.out.fx hk6)
   have K6 := hHd (K5.out.trans (hk6.mono fun k _ e => .inr e))
   clear hb6 hk6
   go_ret
   exact ⟨K6.out, F3, SUB3.out, .inr ⟨⟨_, rfl⟩, HLT.out, d', ⟨⟨_, _, _, _, _, M6.out⟩, D6.out, HOF.out⟩, HRC.out.imp (fun h => h) fun h => ⟨rfl, by rw [RL.out.chg]; exact h⟩⟩⟩
  ·go_upto_region 21 with fail
   have KX := hHd ((Kp.refl (fun _ => False) w1).drew)
   refine wp_region_held_drew (S := fun v => v.cell? ⟨gx, 4, none⟩ = some (.int .i64 (L : Int)) /\ v.rangeAt gx 2 (rsV a c g R)) (by kernel_rfl) (⟨M1.out.cells.2.2.2.2, M1.out.rs⟩) (fun hHeld => ?_)
   refine tk 0 (h := ?_)
   refine tk 1 (h := ?_)
   refine tk 2 (h := ?_)
   refine tk 3 (hy := fun v hSw => exec_load_mid 39 (.tmp 143) rfl gx 2 rfl (rsV a c g R) _ hSw.2 Tryz.underlying39 rfl (infoRs _ _ _ _)) (h := ?_)
   refine tk 5 (h := ?_)
   refine tk 6 (h := ?_)
   refine tk 7 (h := ?_)
   refine tk 8 (v := ?_) (hy := ?_) (h := ?_)
   rotate_left
   ·intro v hSw
    have y := hSw.1
    go_simp
    with_reducible rfl
   refine rd 4 (h := fun K hK => ?_)
   go_simp
   have hnd := rneed_any (M1.out.rv.still KX.out)
   rw [HND.out] at hnd
   refine hnd.mono ?_
   clear hnd
   rintro e w2 ⟨rfl, hk2⟩
   have kk := KX.out.trans hk2
   have M2 := hHd (M1.out.still kk)
   have D2 := hHd (D1.out.still kk)
   have K2 := hHd (K1.out.trans kk.of_false)
   clear hk2 kk
   go_wp2_with fail
   refine hK.out _ _ (⟨M2.out.cells.2.2.2.2, M2.out.rs⟩) (fun hHeld51 => ?_)
   clear hK K
   try simp only [Act.put, sIa, sI0, sI1]
   refine tk 9 (h := ?_)
   refine wpAnyH_done (by kernel_rfl) ?_ _
   clear hHeld KX
   go_wp2_with (first | (refine wpList_load_mid rfl 39 (.tmp 162) rfl gx 2 rfl (rsV a c g R) _ M2.out.rs Tryz.underlying39 rfl (infoRs _ _ _ _) ?_) | fail)
   refine (rcommit_any M2.out.rv).mono ?_
   rintro e w5 ⟨a', c', g', rfl, hr, ha', hg', hk5⟩
   obtain ⟨F3, hF3⟩ : ∃ Fj, Thr F1 w2.heap.size w5.heap.size = Fj := ⟨_, rfl⟩
   have M3 := hHd (M2.out.thr hk5)
   have D3 := hHd (D2.out.thr hk5)
   rw [hF3] at M3 D3
   have SUB3 := hHd (show ∀ k, F3 k -> F k from fun k e => by rw [<- hF3] at e; exact SUB1.out k e.1)
   have OUT3 := hHd (show ∀ k, w2.heap.size <= k -> k < w5.heap.size -> ¬ F3 k from fun k h1 h2 e => by rw [<- hF3] at e; exact Thr.out h1 h2 e)
   have LE3 := hHd (show ∀ k, F3 k -> F1 k from fun k e => by rw [<- hF3] at e; exact e.1)
   clear hF3
   have R3 := hHd hr
   have NA := hHd (OUT3.out a' ha' hr.lt.1)
   have NG := hHd (OUT3.out g' hg' hr.lt.2)
   have K5 := hHd (K2.out.trans hk5.of_false)
   clear hr hg' hk5
   go_wp2_with (first | (refine wpList_store_part rfl 39 (.tmp 166) (.tmp 164) rfl gx [.pointer (some ⟨b, 0, none⟩), .pointer (some ⟨gs, 0, none⟩)] (rsV a c g R) (rsV a' c' g' R.comR) [.int .i64 (L : Int)] rfl rfl M3.out.x rfl (infoRs _ _ _ _) (rsV_one _ _ _ _) ?_; intro w6 hb6 hk6) | fail)
   have M6 := hHd (M3.out.told R3.out NA.out NG.out hb6 hk6)
   have D6 := hHd (D3.out.offx M3.out.fx hk6)
   have K6 := hHd (K5.out.trans (hk6.mono fun k _ e => .inr e))
   clear hb6 hk6
   go_ret
   exact ⟨K6.out, F3, SUB3.out, .inr ⟨⟨_, rfl⟩, HLT.out, d', ⟨⟨_, _, _, _, _, M6.out⟩, D6.out, HOF.out⟩, HRC.out.imp (fun h => h) fun h => ⟨rfl, by rw [RL.out.chg]; exact h⟩⟩⟩
end
section
variable {B : Nat} {F : Nat -> Prop} {w : World} {gx gs gl b g1 g2 a c g L N : Nat} {s : Sm} {d : Dm} {R : Rs} {C : Nat -> List UInt8}
theorem does1_no (J : Jx B F w gx gs gl b g1 g2 a c g L N s d R C) (hN : N + 2000 < 18446744073709551616) (x : Aw) (ok : x.Ok) (hd : x.d = 1) (tbb : Bt.Tbl w) (hB : 0 < B) (hgx : B <= gx) (k : Nat) (hl : Bt.Least s.cused 128 k) (hk : ¬ k < 128) :
  Calls Tryz.prog 9 #[.pointer (some ⟨gx, 0, none⟩), .agg x.cells] w fun e w' => Kp (fun k => F k \/ k = gx) w w' /\ DidOk B F w' gx b L N d R C false e := by
 have HNN := hHd hN
 have ST := hHd J.st
 have RL := hHd J.rel
 have NT := hHd J.note
 have OKX := hHd ok
 obtain ⟨W, hW, ba, kW⟩ : ∃ W, W = w.alloc (.cells x.cells 30) /\ Box W w.heap.size 30 x.cells /\ Kp (fun _ => False) w W := ⟨_, rfl, Box.new w _ _, (Kp.refl _ w).alloc _⟩
 have HW := hHd hW
 have M9 := hHd J.m
 have S9 := hHd J.sto
 have SUB9 := hHd (show ∀ k, F k -> F k from fun k e => e)
 have hgl := ba.lt
 obtain ⟨F0, hF0⟩ : ∃ Fj, Thr F w.heap.size W.heap.size = Fj := ⟨_, rfl⟩
 have M0 := hHd (M9.out.thr kW)
 have S0 := hHd (S9.out.thr kW)
 rw [hF0] at M0 S0
 have SUB0 := hHd (show ∀ k, F0 k -> F k from fun k e => by rw [<- hF0] at e; exact SUB9.out k e.1)
 have OUT0 := hHd (show ∀ k, w.heap.size <= k -> k < W.heap.size -> ¬ F0 k from fun k h1 h2 e => by rw [<- hF0] at e; exact Thr.out h1 h2 e)
 have LE0 := hHd (show ∀ k, F0 k -> F k from fun k e => by rw [<- hF0] at e; exact e.1)
 clear hF0
 obtain ⟨ga, hga⟩ : ∃ ga, w.heap.size = ga := ⟨_, rfl⟩
 have NA0 := hHd (show ¬ F0 ga from OUT0.out ga (by omega) (by omega))
 rw [hga] at ba
 have A0 := hHd ba
 have K0 := hHd (kW.of_false (S := fun k => F k \/ k = gx))
 have HGA := hHd hga
 have TB := hHd tbb
 have LOW := hHd J.m.low
 have GXB := hHd hgx
 have HB := hHd hB
 have HK := hHd hk
 have HLS := hHd hl
 clear J hN ok hW ba kW M9 S9 SUB9 hgl hga
 go_enter Tryz.func9, Tryz.ntmps9
 go_upto_region 1 with fail
 rw [<- HW.out]
 try rw [HGA.out]
 have y0 : W.cell? ⟨ga, 0, none⟩ = some (.int .u8 1) := by
  have := A0.out.cell 0
  rw [this]
  show some (Value.int .u8 x.d) = _
  rw [hd]
 clear hd tbb hB hgx hl hk
 have y := M0.out.cells.2.1
 go_wp2_with fail
 have T0 := TB.out.kp K0.out (fun e => e.elim (fun e => by have := LOW.out _ e; have := HB.out; omega) (fun e => by have := GXB.out; have := HB.out; omega))
 have hal := palloc_any S0.out (by rw [ST.out.hs]; decide) k (by rw [ST.out.hs]; exact HLS.out) T0 (fun e => by have := M0.out.low _ e; have := HB.out; omega)
 rw [allocS_no ST.out k HK.out] at hal
 refine hal.mono ?_
 clear hal T0
 rintro e w2 ⟨rfl, hs2, hk2⟩
 have M2 := hHd (M0.out.kp hk2)
 have S2 := hHd hs2
 have SUB2 := hHd SUB0.out
 have K2 := hHd (K0.out.trans (hk2.mono fun k _ e => .inl (SUB0.out k e)))
 obtain ⟨F2, hF2⟩ : ∃ F2, F0 = F2 := ⟨_, rfl⟩
 rw [hF2] at M2 S2 SUB2
 clear hs2 hk2 y y0 hF2
 go_wp2_with (first | (refine wpList_load_mid rfl 39 (.tmp 88) rfl gx 2 rfl (rsV a c g R) _ M2.out.rs Tryz.underlying39 rfl (infoRs _ _ _ _) ?_) | fail)
 refine (ralloc_no M2.out.rv (fun i hi => by rw [RL.out.bit]; exact HLS.out.below i (by have := HK.out; rw [RL.out.len] at hi; omega))).mono ?_
 rintro e w5 ⟨rfl, hk5⟩
 obtain ⟨F3, hF3⟩ : ∃ Fj, Thr F2 w2.heap.size w5.heap.size = Fj := ⟨_, rfl⟩
 have M3 := hHd (M2.out.thr hk5)
 have S3 := hHd (S2.out.thr hk5)
 rw [hF3] at M3 S3
 have SUB3 := hHd (show ∀ k, F3 k -> F k from fun k e => by rw [<- hF3] at e; exact SUB2.out k e.1)
 have OUT3 := hHd (show ∀ k, w2.heap.size <= k -> k < w5.heap.size -> ¬ F3 k from fun k h1 h2 e => by rw [<- hF3] at e; exact Thr.out h1 h2 e)
 have LE3 := hHd (show ∀ k, F3 k -> F2 k from fun k e => by rw [<- hF3] at e; exact e.1)
 clear hF3
 have R3 := hHd M3.out.rv
 have NG := hHd M3.out.fg
 have K5 := hHd (K2.out.trans hk5.of_false)
 clear hk5
 go_upto_region 12 with (first | (refine dwpList_store_box rfl 39 (.tmp 9) (.tmp 91) rfl w5.heap.size (rsV a c g R) rfl rfl (Box.new w5 39 #[.slice none 0 0, .map none]) (by kernel_rfl) (infoRs _ _ _ _) (rsV_one _ _ _ _) ?_; intro w6 hb6 hk6) | fail)
 have k6 : Kp (fun _ => False) w5 w6 := ((Kp.refl (fun _ => False) w5).alloc (.cells #[.slice none 0 0, .map none] 39)).trans_new hk6 (fun q e => .inl (by omega))
 have M6 := hHd (M3.out.still k6)
 have S6 := hHd (S3.out.still k6)
 have R6 := hHd (R3.out.still k6)
 have K6 := hHd (K5.out.trans k6.of_false)
 have B6 := hHd hb6
 clear hb6 hk6 k6
 try simp only [Act.put]
 go_wp2_with (first | (refine wpList_load_mid rfl 39 (.tmp 9) rfl w5.heap.size 0 rfl (rsV a c g R) _ (Box.range' B6.out) Tryz.underlying39 rfl (infoRs _ _ _ _) ?_) | (refine wpList_store_part rfl 39 (.tmp 96) (.tmp 94) rfl gx [.pointer (some ⟨b, 0, none⟩), .pointer (some ⟨gs, 0, none⟩)] (rsV a c g R) (rsV a c g R) [.int .i64 (L : Int)] rfl rfl M6.out.x rfl (infoRs _ _ _ _) (rsV_one _ _ _ _) ?_; intro w7 hb7 hk7) | fail)
 have M7 := hHd (M6.out.told R6.out M6.out.fa NG.out hb7 hk7)
 have S7 := hHd (S6.out.off M6.out.fx hk7)
 have K7 := hHd (K6.out.trans (hk7.mono fun k _ e => .inr e))
 clear hb7 hk7
 go_ret
 exact ⟨K7.out, F3, SUB3.out, .inl ⟨rfl, gs, gl, g1, g2, a, c, g, s, d, R, C, ⟨M7.out, S7.out, ST.out.mono (by omega), RL.out, NT.out⟩, .inl rfl, fun h => h⟩⟩
theorem does1_yes (J : Jx B F w gx gs gl b g1 g2 a c g L N s d R C) (hN : N + 2000 < 18446744073709551616) (x : Aw) (ok : x.Ok) (hd : x.d = 1) (tbb : Bt.Tbl w) (hB : 0 < B) (hgx : B <= gx) (k : Nat) (hl : Bt.Least s.cused 128 k) (hk : k < 128) :
  Calls Tryz.prog 9 #[.pointer (some ⟨gx, 0, none⟩), .agg x.cells] w fun e w' => Kp (fun k => F k \/ k = gx) w w' /\ DidOk B F w' gx b L N d R C false e := by
 have HNN := hHd hN
 have ST := hHd J.st
 have RL := hHd J.rel
 have NT := hHd J.note
 have OKX := hHd ok
 obtain ⟨W, hW, ba, kW⟩ : ∃ W, W = w.alloc (.cells x.cells 30) /\ Box W w.heap.size 30 x.cells /\ Kp (fun _ => False) w W := ⟨_, rfl, Box.new w _ _, (Kp.refl _ w).alloc _⟩
 have HW := hHd hW
 have M9 := hHd J.m
 have S9 := hHd J.sto
 have SUB9 := hHd (show ∀ k, F k -> F k from fun k e => e)
 have hgl := ba.lt
 obtain ⟨F0, hF0⟩ : ∃ Fj, Thr F w.heap.size W.heap.size = Fj := ⟨_, rfl⟩
 have M0 := hHd (M9.out.thr kW)
 have S0 := hHd (S9.out.thr kW)
 rw [hF0] at M0 S0
 have SUB0 := hHd (show ∀ k, F0 k -> F k from fun k e => by rw [<- hF0] at e; exact SUB9.out k e.1)
 have OUT0 := hHd (show ∀ k, w.heap.size <= k -> k < W.heap.size -> ¬ F0 k from fun k h1 h2 e => by rw [<- hF0] at e; exact Thr.out h1 h2 e)
 have LE0 := hHd (show ∀ k, F0 k -> F k from fun k e => by rw [<- hF0] at e; exact e.1)
 clear hF0
 obtain ⟨ga, hga⟩ : ∃ ga, w.heap.size = ga := ⟨_, rfl⟩
 have NA0 := hHd (show ¬ F0 ga from OUT0.out ga (by omega) (by omega))
 rw [hga] at ba
 have A0 := hHd ba
 have K0 := hHd (kW.of_false (S := fun k => F k \/ k = gx))
 have HGA := hHd hga
 have TB := hHd tbb
 have LOW := hHd J.m.low
 have GXB := hHd hgx
 have HB := hHd hB
 have HK := hHd hk
 have HLS := hHd hl
 have HK1 := hHd (show 1 <= k by
  rcases Nat.eq_zero_or_pos k with h | h
  ·have h1 := hl.at_ hk
   rw [h, J.rel.c0] at h1
   cases h1
  ·exact h)
 clear J hN ok hW ba kW M9 S9 SUB9 hgl hga
 go_enter Tryz.func9, Tryz.ntmps9
 go_upto_region 1 with fail
 rw [<- HW.out]
 try rw [HGA.out]
 have y0 : W.cell? ⟨ga, 0, none⟩ = some (.int .u8 1) := by
  have := A0.out.cell 0
  rw [this]
  show some (Value.int .u8 x.d) = _
  rw [hd]
 clear hd tbb hB hgx hl hk
 have y := M0.out.cells.2.1
 go_wp2_with fail
 have T0 := TB.out.kp K0.out (fun e => e.elim (fun e => by have := LOW.out _ e; have := HB.out; omega) (fun e => by have := GXB.out; have := HB.out; omega))
 have hal := palloc_any S0.out (by rw [ST.out.hs]; decide) k (by rw [ST.out.hs]; exact HLS.out) T0 (fun e => by have := M0.out.low _ e; have := HB.out; omega)
 rw [allocS_yes ST.out k HK.out] at hal
 refine hal.mono ?_
 clear hal T0
 rintro e w2 ⟨rfl, hs2, hk2⟩
 have M2 := hHd (M0.out.kp hk2)
 have S2 := hHd hs2
 have SUB2 := hHd SUB0.out
 have K2 := hHd (K0.out.trans (hk2.mono fun k _ e => .inl (SUB0.out k e)))
 obtain ⟨F2, hF2⟩ : ∃ F2, F0 = F2 := ⟨_, rfl⟩
 rw [hF2] at M2 S2 SUB2
 clear hs2 hk2 y y0 hF2
 go_wp2_with (first | (refine wpList_load_mid rfl 39 (.tmp 88) rfl gx 2 rfl (rsV a c g R) _ M2.out.rs Tryz.underlying39 rfl (infoRs _ _ _ _) ?_) | fail)
 refine (ralloc_any M2.out.rv k (fun i hi => by rw [RL.out.bit]; exact HLS.out.below i hi) (by rw [RL.out.len]; exact HK.out) (by rw [RL.out.bit]; exact HLS.out.at_ HK.out)).mono ?_
 rintro e w5 ⟨g', rfl, hr, hg', hk5⟩
 obtain ⟨F3, hF3⟩ : ∃ Fj, Thr F2 w2.heap.size w5.heap.size = Fj := ⟨_, rfl⟩
 have M3 := hHd (M2.out.thr hk5)
 have S3 := hHd (S2.out.thr hk5)
 rw [hF3] at M3 S3
 have SUB3 := hHd (show ∀ k, F3 k -> F k from fun k e => by rw [<- hF3] at e; exact SUB2.out k e.1)
 have OUT3 := hHd (show ∀ k, w2.heap.size <= k -> k < w5.heap.size -> ¬ F3 k from fun k h1 h2 e => by rw [<- hF3] at e; exact Thr.out h1 h2 e)
 have LE3 := hHd (show ∀ k, F3 k -> F2 k from fun k e => by rw [<- hF3] at e; exact e.1)
 clear hF3
 have R3 := hHd hr
 have NG := hHd (OUT3.out g' hg' hr.lt.2)
 have K5 := hHd (K2.out.trans hk5.of_false)
 clear hr hg' hk5
 go_upto_region 12 with (first | (refine dwpList_store_box rfl 39 (.tmp 9) (.tmp 91) rfl w5.heap.size (rsV a c g' ⟨R.pg, (R.setR k).chg.put k zsec⟩) rfl rfl (Box.new w5 39 #[.slice none 0 0, .map none]) (by kernel_rfl) (infoRs _ _ _ _) (rsV_one _ _ _ _) ?_; intro w6 hb6 hk6) | fail)
 have k6 : Kp (fun _ => False) w5 w6 := ((Kp.refl (fun _ => False) w5).alloc (.cells #[.slice none 0 0, .map none] 39)).trans_new hk6 (fun q e => .inl (by omega))
 have M6 := hHd (M3.out.still k6)
 have S6 := hHd (S3.out.still k6)
 have R6 := hHd (R3.out.still k6)
 have K6 := hHd (K5.out.trans k6.of_false)
 have B6 := hHd hb6
 clear hb6 hk6 k6
 try simp only [Act.put]
 go_wp2_with (first | (refine wpList_load_mid rfl 39 (.tmp 9) rfl w5.heap.size 0 rfl (rsV a c g' ⟨R.pg, (R.setR k).chg.put k zsec⟩) _ (Box.range' B6.out) Tryz.underlying39 rfl (infoRs _ _ _ _) ?_) | (refine wpList_store_part rfl 39 (.tmp 96) (.tmp 94) rfl gx [.pointer (some ⟨b, 0, none⟩), .pointer (some ⟨gs, 0, none⟩)] (rsV a c g R) (rsV a c g' ⟨R.pg, (R.setR k).chg.put k zsec⟩) [.int .i64 (L : Int)] rfl rfl M6.out.x rfl (infoRs _ _ _ _) (rsV_one _ _ _ _) ?_; intro w7 hb7 hk7) | fail)
 have M7 := hHd (M6.out.told R6.out M6.out.fa NG.out hb7 hk7)
 have S7 := hHd (S6.out.off M6.out.fx hk7)
 have K7 := hHd (K6.out.trans (hk7.mono fun k _ e => .inr e))
 clear hb7 hk7
 go_ret
 exact ⟨K7.out, F3, SUB3.out, .inl ⟨rfl, gs, gl, g1, g2, a, c, g', { (({ s with dead := false } : Sm).useS (k : Int) true) with chg := ((({ s with dead := false } : Sm).useS (k : Int) true).chg).put k zsec }, d, _, C, ⟨M7.out, S7.out, (ST.out.alloc k HK.out).mono (by omega), RL.out.alloc ST.out.hs k HK.out HK1.out (HLS.out.at_ HK.out), NT.out⟩, .inl rfl, fun h => h⟩⟩
end
end Go.Proofs.YtepaeliamhjgiaaGreatDoor
