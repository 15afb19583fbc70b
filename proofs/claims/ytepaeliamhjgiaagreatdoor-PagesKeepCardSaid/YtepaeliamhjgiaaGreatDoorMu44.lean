/- The law of pages, part 44 of 55: PgD0. -/
import Derived.Test.YtepaeliamhjgiaaGreatDoorMu1
import Derived.Test.YtepaeliamhjgiaaGreatDoorMu43
set_option maxHeartbeats 16000000
set_option maxRecDepth 100000
namespace Go.Proofs.YtepaeliamhjgiaaGreatDoor
open Go.RowKit Go.Maps Go.Shelf
section
variable {B : Nat} {F : Nat -> Prop} {w : World} {gx gs gl b g1 g2 a c g L N : Nat} {s : Sm} {d : Dm} {R : Rs} {C : Nat -> List UInt8}
theorem does0_no (J : Jx B F w gx gs gl b g1 g2 a c g L N s d R C) (hN : N + 2000 < 18446744073709551616) (x : Aw) (ok : x.Ok) (hd : x.d = 0) (hx : x.n < 1 \/ (128 : Int) <= x.n) :
  Calls Tryz.prog 9 #[.pointer (some ⟨gx, 0, none⟩), .agg x.cells] w fun e w' => Kp (fun k => F k \/ k = gx) w w' /\ DidOk B F w' gx b L N d R C false e := by
 have HNN := hHd hN
 have ST := hHd J.st
 have RL := hHd J.rel
 have NT := hHd J.note
 have OKX := hHd ok
 obtain ⟨W, hW, ba, kW⟩ : ∃ W, W = w.alloc (.cells x.cells 30) /\ Box W w.heap.size 30 x.cells /\ Kp (fun _ => False) w W := ⟨_, rfl, Box.new w _ _, (Kp.refl _ w).alloc _⟩
 have HW := hHd hW
 have M9 := hHd J.m
 have S9 := hHd J.sto
 have SUB9 := hHd (show ∀ k, F k -> F k from fun k e => e)
 have hgl := ba.lt
 obtain ⟨F0, hF0⟩ : ∃ Fj, Thr F w.heap.size W.heap.size = Fj := ⟨_, rfl⟩
 have M0 := hHd (M9.out.thr kW)
 have S0 := hHd (S9.out.thr kW)
 rw [hF0] at M0 S0
 have SUB0 := hHd (show ∀ k, F0 k -> F k from fun k e => by rw [<- hF0] at e; exact SUB9.out k e.1)
 have OUT0 := hHd (show ∀ k, w.heap.size <= k -> k < W.heap.size -> ¬ F0 k from fun k h1 h2 e => by rw [<- hF0] at e; exact Thr.out h1 h2 e)
 have LE0 := hHd (show ∀ k, F0 k -> F k from fun k e => by rw [<- hF0] at e; exact e.1)
 clear hF0
 obtain ⟨ga, hga⟩ : ∃ ga, w.heap.size = ga := ⟨_, rfl⟩
 have NA0 := hHd (show ¬ F0 ga from OUT0.out ga (by omega) (by omega))
 rw [hga] at ba
 have A0 := hHd ba
 have K0 := hHd (kW.of_false (S := fun k => F k \/ k = gx))
 have HGA := hHd hga
 have HX := hHd hx
 clear J hN ok hW ba kW M9 S9 SUB9 hgl hga
 go_enter Tryz.func9, Tryz.ntmps9
 go_upto_region 1 with fail
 rw [<- HW.out]
 try rw [HGA.out]
 have y0 : W.cell? ⟨ga, 0, none⟩ = some (.int .u8 0) := by
  have := A0.out.cell 0
  rw [this]
  show some (Value.int .u8 x.d) = _
  rw [hd]
 clear hd hx
 go_upto_region 7 with fail
 have KX := hHd ((Kp.refl (fun _ => False) W).drew)
 refine wp_region_held_drew (S := fun v => v.cell? ⟨gx, 1, none⟩ = some (.pointer (some ⟨gs, 0, none⟩)) /\ Box v ga 30 x.cells) (by kernel_rfl) (⟨M0.out.cells.2.1, A0.out⟩) (fun hHeld => ?_)
 refine tk 0 (h := ?_)
 refine tk 1 (h := ?_)
 refine tk 2 (h := ?_)
 refine tk 3 (v := ?_) (hy := ?_) (h := ?_)
 rotate_left
 ·intro v hSw
  have y := hSw.1
  go_simp
  with_reducible rfl
 refine tk 4 (h := ?_)
 refine tk 5 (v := ?_) (hy := ?_) (h := ?_)
 rotate_left
 ·intro v hSw
  have y : v.cell? ⟨ga, 1, none⟩ = some (.int .i64 x.n) := hSw.2.cell 1
  go_simp
  with_reducible rfl
 refine tk 6 (h := ?_)
 refine tk 7 (v := ?_) (hy := ?_) (h := ?_)
 rotate_left
 ·intro v hSw
  have y : v.cell? ⟨ga, 2, none⟩ = some (.int .u8 x.c.toNat) := hSw.2.cell 2
  go_simp
  with_reducible rfl
 refine rd 8 (h := fun K hK => ?_)
 go_simp
 refine (full_any x.c _).mono ?_
 rintro e wf ⟨gb, rfl, hbf, hgf, hkf⟩
 have KF := hHd (KX.out.trans hkf)
 have BF := hHd hbf
 have GF := hHd hgf
 have AF := hHd (A0.out.kp KF.out (fun e => e))
 clear hbf hgf hkf
 go_wp2_with fail
 obtain ⟨F1, hF1⟩ : ∃ Fj, Thr F0 W.heap.size wf.heap.size = Fj := ⟨_, rfl⟩
 have M1 := hHd (M0.out.thr KF.out)
 have S1 := hHd (S0.out.thr KF.out)
 rw [hF1] at M1 S1
 have SUB1 := hHd (show ∀ k, F1 k -> F k from fun k e => by rw [<- hF1] at e; exact SUB0.out k e.1)
 have OUT1 := hHd (show ∀ k, W.heap.size <= k -> k < wf.heap.size -> ¬ F1 k from fun k h1 h2 e => by rw [<- hF1] at e; exact Thr.out h1 h2 e)
 have LE1 := hHd (show ∀ k, F1 k -> F0 k from fun k e => by rw [<- hF1] at e; exact e.1)
 clear hF1
 have CX := hHd M1.out.cells.2.1
 refine hK.out _ _ (⟨CX.out, AF.out⟩) (fun hHeld1 => ?_)
 clear hK K
 try simp only [Act.put, sIa, sI0, sI1]
 refine rd 9 (h := fun K hK => ?_)
 go_simp
 have hrd : Rd wf (some ⟨gb, 0, none⟩) (fullL x.c) := (.inr ⟨gb, 0, rfl, fun j u hj => by
   rw [Nat.zero_add, BF.out.cell, List.getElem?_toArray]
   unfold bcs
   rw [List.getElem?_map, hj]
   rfl⟩)
 have hput := pputs_any S1.out M1.out.new x.n (some ⟨gb, 0, none⟩) (fullL x.c) 512 hrd (fun ad e => by
  injection e with e
  rw [<- e]
  have hsz := KX.out.size
  have hlt := BF.out.lt
  exact OUT1.out gb (Nat.le_trans hsz GF.out) hlt)
 rw [fullL_length, putS_no ST.out x.n (fullL x.c) HX.out] at hput
 refine hput.mono ?_
 clear hput hrd
 rintro e w2 ⟨rfl, hs2, hk2⟩
 have M2 := hHd (M1.out.kp hk2)
 have S2 := hHd hs2
 have NAX := hHd (show ¬ F1 ga from fun e => NA0.out (LE1.out ga e))
 have A2 := hHd (AF.out.kp hk2 NAX.out)
 have K2 := hHd ((K0.out.trans KF.out.of_false).trans (hk2.mono fun k _ e => .inl (SUB1.out k e)))
 have CX2 := hHd M2.out.cells.2.1
 have SUB2 := hHd SUB1.out
 clear hs2 hk2
 go_wp2_with fail
 refine hK.out _ _ (⟨CX2.out, A2.out⟩) (fun hHeld2 => ?_)
 clear hK K
 try simp only [Act.put, sIa, sI0, sI1]
 refine tk 10 (h := ?_)
 refine wpAnyH_done (by kernel_rfl) ?_ _
 clear hHeld
 obtain ⟨F2, hF2⟩ : ∃ F2, F1 = F2 := ⟨_, rfl⟩
 rw [hF2] at M2 S2 SUB2
 clear hF2
 go_upto_region 8 with fail
 clear KF BF GF AF CX KX
 have KX := hHd ((Kp.refl (fun _ => False) w2).drew)
 refine wp_region_held_drew (S := fun v => Box v ga 30 x.cells) (by kernel_rfl) ((A2.out.kp KX.out (fun e => e))) (fun hHeld => ?_)
 refine tk 0 (h := ?_)
 refine tk 1 (h := ?_)
 refine tk 2 (h := ?_)
 refine tk 3 (h := ?_)
 refine tk 5 (h := ?_)
 refine tk 6 (v := ?_) (hy := ?_) (h := ?_)
 rotate_left
 ·intro v hSw
  have y : v.cell? ⟨ga, 1, none⟩ = some (.int .i64 x.n) := hSw.cell 1
  go_simp
  with_reducible rfl
 refine tk 7 (h := ?_)
 refine tk 8 (v := ?_) (hy := ?_) (h := ?_)
 rotate_left
 ·intro v hSw
  have y : v.cell? ⟨ga, 2, none⟩ = some (.int .u8 x.c.toNat) := hSw.cell 2
  go_simp
  with_reducible rfl
 refine wpAnyH_ready (rs := [4, 9]) (by kernel_rfl) (by simp) ?_
 refine rdc 4 (h := fun K hK => ?_) (hs := rdc 9 (h := fun K hK => ?_) (hs := AllReadyH.nil))
 ·rw [if_pos (by rfl)]
  refine wp_load_mid 39 (.tmp 62) rfl gx 2 rfl (rsV a c g R) _ (M2.out.still KX.out).rs Tryz.underlying39 rfl (infoRs _ _ _ _) ?_
  refine hK.out _ _ ((A2.out.kp KX.out (fun e => e))) (fun hHeld15 => ?_)
  clear hK K
  try simp only [Act.put, sIa, sI0, sI1]
  refine rd 9 (h := fun K hK => ?_)
  go_simp
  refine (full_any x.c _).mono ?_
  rintro e wf ⟨gc, rfl, hbf, hgf, hkf⟩
  have KF := hHd (KX.out.trans hkf)
  have BF := hHd hbf
  clear hbf hgf hkf KX
  have KX := hHd KF.out
  go_wp2_with fail
  refine hK.out _ _ ((A2.out.kp KX.out (fun e => e))) (fun hHeld3 => ?_)
  clear hK K
  try simp only [Act.put, sIa, sI0, sI1]
  refine rd 10 (h := fun K hK => ?_)
  have hrd : Rd wf (some ⟨gc, 0, none⟩) (fullL x.c) := .inr ⟨gc, 0, rfl, fun j u hj => by
   rw [Nat.zero_add, BF.out.cell, List.getElem?_toArray]
   unfold bcs
   rw [List.getElem?_map, hj]
   rfl⟩
  have ht := hrd.text (P := Tryz.prog) 50 9 5 512 Tryz.underlying50 Tryz.underlying5 Tryz.underlying9
  rw [fullL_length] at ht
  go_simp
  clear ht hrd
  refine hK.out _ _ ((A2.out.kp KX.out (fun e => e))) (fun hHeld4 => ?_)
  clear hK K
  try simp only [Act.put, sIa, sI0, sI1]
  refine rd 11 (h := fun K hK => ?_)
  go_simp
  have hcall := rput_no (M2.out.rv.still KX.out) x.n ⟨(fullL x.c).toArray⟩ (by rw [RL.out.len]; exact HX.out)
  refine hcall.mono ?_
  clear hcall
  rintro e w5 ⟨rfl, hk5⟩
  have K5 := hHd (KX.out.trans hk5)
  obtain ⟨F3, hF3⟩ : ∃ Fj, Thr F2 w2.heap.size w5.heap.size = Fj := ⟨_, rfl⟩
  have M3 := hHd (M2.out.thr K5.out)
  have S3 := hHd (S2.out.thr K5.out)
  rw [hF3] at M3 S3
  have SUB3 := hHd (show ∀ k, F3 k -> F k from fun k e => by rw [<- hF3] at e; exact SUB2.out k e.1)
  have OUT3 := hHd (show ∀ k, w2.heap.size <= k -> k < w5.heap.size -> ¬ F3 k from fun k h1 h2 e => by rw [<- hF3] at e; exact Thr.out h1 h2 e)
  have LE3 := hHd (show ∀ k, F3 k -> F2 k from fun k e => by rw [<- hF3] at e; exact e.1)
  clear hF3
  have R3 := hHd M3.out.rv
  have NG := hHd M3.out.fg
  have A5 := hHd (A2.out.kp K5.out (fun e => e))
  clear hk5
  go_wp2_with fail
  refine hK.out _ _ (A5.out) (fun hHeld5 => ?_)
  clear hK K
  try simp only [Act.put, sIa, sI0, sI1]
  refine tk 12 (h := ?_)
  refine tk 13 (h := ?_)
  refine tk 14 (h := ?_)
  refine tk 15 (h := ?_)
  refine tk 16 (h := ?_)
  refine rd 17 (h := fun K hK => ?_)
  rw [if_pos (by rfl)]
  refine wp_store_part 39 (.tmp 74) (.tmp 71) rfl gx [.pointer (some ⟨b, 0, none⟩), .pointer (some ⟨gs, 0, none⟩)] (rsV a c g R) (rsV a c g R) [.int .i64 (L : Int)] rfl rfl M3.out.x rfl (infoRs _ _ _ _) (rsV_one _ _ _ _) ?_
  intro w6 hb6 hk6
  have M6 := hHd (M3.out.told R3.out M3.out.fa NG.out hb6 hk6)
  have S6 := hHd (S3.out.off M3.out.fx hk6)
  have A6 := hHd (A5.out.kp hk6 (A5.out.type_ne M3.out.x (by decide)))
  have K6 := hHd ((K2.out.trans K5.out.of_false).trans (hk6.mono fun k _ e => .inr e))
  clear hb6 hk6
  refine hK.out _ _ (A6.out) (fun hHeld6 => ?_)
  clear hK K
  try simp only [Act.put]
  refine tk 18 (h := ?_)
  refine wpAnyH_done (by kernel_rfl) ?_ _
  clear hHeld
  go_wp2_with fail
  go_ret
  exact ⟨K6.out, F3, SUB3.out, .inl ⟨rfl, gs, gl, g1, g2, a, c, g, s, d, _, C, ⟨M6.out, S6.out, ST.out.mono (by omega), RL.out, NT.out⟩, .inl rfl, fun h => h⟩⟩
 ·go_simp
  refine (full_any x.c _).mono ?_
  rintro e wf ⟨gc, rfl, hbf, hgf, hkf⟩
  have KF := hHd (KX.out.trans hkf)
  have BF := hHd hbf
  clear hbf hgf hkf KX
  have KX := hHd KF.out
  go_wp2_with fail
  refine hK.out _ _ ((A2.out.kp KX.out (fun e => e))) (fun hHeld16 => ?_)
  clear hK K
  try simp only [Act.put, sIa, sI0, sI1]
  refine wpAnyH_ready (rs := [4, 10]) (by kernel_rfl) (by simp) ?_
  refine rdc 4 (h := fun K hK => ?_) (hs := rdc 10 (h := fun K hK => ?_) (hs := AllReadyH.nil))
  ·rw [if_pos (by rfl)]
   refine wp_load_mid 39 (.tmp 62) rfl gx 2 rfl (rsV a c g R) _ (M2.out.still KX.out).rs Tryz.underlying39 rfl (infoRs _ _ _ _) ?_
   refine hK.out _ _ ((A2.out.kp KX.out (fun e => e))) (fun hHeld13 => ?_)
   clear hK K
   try simp only [Act.put, sIa, sI0, sI1]
   refine rd 10 (h := fun K hK => ?_)
   have hrd : Rd wf (some ⟨gc, 0, none⟩) (fullL x.c) := .inr ⟨gc, 0, rfl, fun j u hj => by
    rw [Nat.zero_add, BF.out.cell, List.getElem?_toArray]
    unfold bcs
    rw [List.getElem?_map, hj]
    rfl⟩
   have ht := hrd.text (P := Tryz.prog) 50 9 5 512 Tryz.underlying50 Tryz.underlying5 Tryz.underlying9
   rw [fullL_length] at ht
   go_simp
   clear ht hrd
   refine hK.out _ _ ((A2.out.kp KX.out (fun e => e))) (fun hHeld7 => ?_)
   clear hK K
   try simp only [Act.put, sIa, sI0, sI1]
   refine rd 11 (h := fun K hK => ?_)
   go_simp
   have hcall := rput_no (M2.out.rv.still KX.out) x.n ⟨(fullL x.c).toArray⟩ (by rw [RL.out.len]; exact HX.out)
   refine hcall.mono ?_
   clear hcall
   rintro e w5 ⟨rfl, hk5⟩
   have K5 := hHd (KX.out.trans hk5)
   obtain ⟨F3, hF3⟩ : ∃ Fj, Thr F2 w2.heap.size w5.heap.size = Fj := ⟨_, rfl⟩
   have M3 := hHd (M2.out.thr K5.out)
   have S3 := hHd (S2.out.thr K5.out)
   rw [hF3] at M3 S3
   have SUB3 := hHd (show ∀ k, F3 k -> F k from fun k e => by rw [<- hF3] at e; exact SUB2.out k e.1)
   have OUT3 := hHd (show ∀ k, w2.heap.size <= k -> k < w5.heap.size -> ¬ F3 k from fun k h1 h2 e => by rw [<- hF3] at e; exact Thr.out h1 h2 e)
   have LE3 := hHd (show ∀ k, F3 k -> F2 k from fun k e => by rw [<- hF3] at e; exact e.1)
   clear hF3
   have R3 := hHd M3.out.rv
   have NG := hHd M3.out.fg
   have A5 := hHd (A2.out.kp K5.out (fun e => e))
   clear hk5
   go_wp2_with fail
   refine hK.out _ _ (A5.out) (fun hHeld8 => ?_)
   clear hK K
   try simp only [Act.put, sIa, sI0, sI1]
   refine tk 12 (h := ?_)
   refine tk 13 (h := ?_)
   refine tk 14 (h := ?_)
   refine tk 15 (h := ?_)
   refine tk 16 (h := ?_)
   refine rd 17 (h := fun K hK => ?_)
   rw [if_pos (by rfl)]
   refine wp_store_part 39 (.tmp 74) (.tmp 71) rfl gx [.pointer (some ⟨b, 0, none⟩), .pointer (some ⟨gs, 0, none⟩)] (rsV a c g R) (rsV a c g R) [.int .i64 (L : Int)] rfl rfl M3.out.x rfl (infoRs _ _ _ _) (rsV_one _ _ _ _) ?_
   intro w6 hb6 hk6
   have M6 := hHd (M3.out.told R3.out M3.out.fa NG.out hb6 hk6)
   have S6 := hHd (S3.out.off M3.out.fx hk6)
   have A6 := hHd (A5.out.kp hk6 (A5.out.type_ne M3.out.x (by decide)))
   have K6 := hHd ((K2.out.trans K5.out.of_false).trans (hk6.mono fun k _ e => .inr e))
   clear hb6 hk6
   refine hK.out _ _ (A6.out) (fun hHeld9 => ?_)
   clear hK K
   try simp only [Act.put]
   refine tk 18 (h := ?_)
   refine wpAnyH_done (by kernel_rfl) ?_ _
   clear hHeld
   go_wp2_with fail
   go_ret
   exact ⟨K6.out, F3, SUB3.out, .inl ⟨rfl, gs, gl, g1, g2, a, c, g, s, d, _, C, ⟨M6.out, S6.out, ST.out.mono (by omega), RL.out, NT.out⟩, .inl rfl, fun h => h⟩⟩
  ·have hrd : Rd wf (some ⟨gc, 0, none⟩) (fullL x.c) := .inr ⟨gc, 0, rfl, fun j u hj => by
    rw [Nat.zero_add, BF.out.cell, List.getElem?_toArray]
    unfold bcs
    rw [List.getElem?_map, hj]
    rfl⟩
   have ht := hrd.text (P := Tryz.prog) 50 9 5 512 Tryz.underlying50 Tryz.underlying5 Tryz.underlying9
   rw [fullL_length] at ht
   go_simp
   clear ht hrd
   refine hK.out _ _ ((A2.out.kp KX.out (fun e => e))) (fun hHeld14 => ?_)
   clear hK K
   try simp only [Act.put, sIa, sI0, sI1]
   refine rd 4 (h := fun K hK => ?_)
   rw [if_pos (by rfl)]
   refine wp_load_mid 39 (.tmp 62) rfl gx 2 rfl (rsV a c g R) _ (M2.out.still KX.out).rs Tryz.underlying39 rfl (infoRs _ _ _ _) ?_
   refine hK.out _ _ ((A2.out.kp KX.out (fun e => e))) (fun hHeld10 => ?_)
   clear hK K
   try simp only [Act.put, sIa, sI0, sI1]
   refine rd 11 (h := fun K hK => ?_)
   go_simp
   have hcall := rput_no (M2.out.rv.still KX.out) x.n ⟨(fullL x.c).toArray⟩ (by rw [RL.out.len]; exact HX.out)
   refine hcall.mono ?_
   clear hcall
   rintro e w5 ⟨rfl, hk5⟩
   have K5 := hHd (KX.out.trans hk5)
   obtain ⟨F3, hF3⟩ : ∃ Fj, Thr F2 w2.heap.size w5.heap.size = Fj := ⟨_, rfl⟩
   have M3 := hHd (M2.out.thr K5.out)
   have S3 := hHd (S2.out.thr K5.out)
   rw [hF3] at M3 S3
   have SUB3 := hHd (show ∀ k, F3 k -> F k from fun k e => by rw [<- hF3] at e; exact SUB2.out k e.1)
   have OUT3 := hHd (show ∀ k, w2.heap.size <= k -> k < w5.heap.size -> ¬ F3 k from fun k h1 h2 e => by rw [<- hF3] at e; exact Thr.out h1 h2 e)
   have LE3 := hHd (show ∀ k, F3 k -> F2 k from fun k e => by rw [<- hF3] at e; exact e.1)
   clear hF3
   have R3 := hHd M3.out.rv
   have NG := hHd M3.out.fg
   have A5 := hHd (A2.out.kp K5.out (fun e => e))
   clear hk5
   go_wp2_with fail
   refine hK.out _ _ (A5.out) (fun hHeld11 => ?_)
   clear hK K
   try simp only [Act.put, sIa, sI0, sI1]
   refine tk 12 (h := ?_)
   refine tk 13 (h := ?_)
   refine tk 14 (h := ?_)
   refine tk 15 (h := ?_)
   refine tk 16 (h := ?_)
   refine rd 17 (h := fun K hK => ?_)
   rw [if_pos (by rfl)]
   refine wp_store_part 39 (.tmp 74) (.tmp 71) rfl gx [.pointer (some ⟨b, 0, none⟩), .pointer (some ⟨gs, 0, none⟩)] (rsV a c g R) (rsV a c g R) [.int .i64 (L : Int)] rfl rfl M3.out.x rfl (infoRs _ _ _ _) (rsV_one _ _ _ _) ?_
   intro w6 hb6 hk6
   have M6 := hHd (M3.out.told R3.out M3.out.fa NG.out hb6 hk6)
   have S6 := hHd (S3.out.off M3.out.fx hk6)
   have A6 := hHd (A5.out.kp hk6 (A5.out.type_ne M3.out.x (by decide)))
   have K6 := hHd ((K2.out.trans K5.out.of_false).trans (hk6.mono fun k _ e => .inr e))
   clear hb6 hk6
   refine hK.out _ _ (A6.out) (fun hHeld12 => ?_)
   clear hK K
   try simp only [Act.put]
   refine tk 18 (h := ?_)
   refine wpAnyH_done (by kernel_rfl) ?_ _
   clear hHeld
   go_wp2_with fail
   go_ret
   exact ⟨K6.out, F3, SUB3.out, .inl ⟨rfl, gs, gl, g1, g2, a, c, g, s, d, _, C, ⟨M6.out, S6.out, ST.out.mono (by omega), RL.out, NT.out⟩, .inl rfl, fun h => h⟩⟩
theorem does0_yes (J : Jx B F w gx gs gl b g1 g2 a c g L N s d R C) (hN : N + 2000 < 18446744073709551616) (x : Aw) (ok : x.Ok) (hd : x.d = 0) (i : Nat) (hx : x.n = (i : Int)) (h1 : 1 <= i) (hi : i < 128) :
  Calls Tryz.prog 9 #[.pointer (some ⟨gx, 0, none⟩), .agg x.cells] w fun e w' => Kp (fun k => F k \/ k = gx) w w' /\ DidOk B F w' gx b L N d R C false e := by
 have HNN := hHd hN
 have ST := hHd J.st
 have RL := hHd J.rel
 have NT := hHd J.note
 have OKX := hHd ok
 obtain ⟨W, hW, ba, kW⟩ : ∃ W, W = w.alloc (.cells x.cells 30) /\ Box W w.heap.size 30 x.cells /\ Kp (fun _ => False) w W := ⟨_, rfl, Box.new w _ _, (Kp.refl _ w).alloc _⟩
 have HW := hHd hW
 have M9 := hHd J.m
 have S9 := hHd J.sto
 have SUB9 := hHd (show ∀ k, F k -> F k from fun k e => e)
 have hgl := ba.lt
 obtain ⟨F0, hF0⟩ : ∃ Fj, Thr F w.heap.size W.heap.size = Fj := ⟨_, rfl⟩
 have M0 := hHd (M9.out.thr kW)
 have S0 := hHd (S9.out.thr kW)
 rw [hF0] at M0 S0
 have SUB0 := hHd (show ∀ k, F0 k -> F k from fun k e => by rw [<- hF0] at e; exact SUB9.out k e.1)
 have OUT0 := hHd (show ∀ k, w.heap.size <= k -> k < W.heap.size -> ¬ F0 k from fun k h1 h2 e => by rw [<- hF0] at e; exact Thr.out h1 h2 e)
 have LE0 := hHd (show ∀ k, F0 k -> F k from fun k e => by rw [<- hF0] at e; exact e.1)
 clear hF0
 obtain ⟨ga, hga⟩ : ∃ ga, w.heap.size = ga := ⟨_, rfl⟩
 have NA0 := hHd (show ¬ F0 ga from OUT0.out ga (by omega) (by omega))
 rw [hga] at ba
 have A0 := hHd ba
 have K0 := hHd (kW.of_false (S := fun k => F k \/ k = gx))
 have HGA := hHd hga
 have HI := hHd hi
 have H1 := hHd h1
 have HX := hHd hx
 clear J hN ok hW ba kW M9 S9 SUB9 hgl hga
 go_enter Tryz.func9, Tryz.ntmps9
 go_upto_region 1 with fail
 rw [<- HW.out]
 try rw [HGA.out]
 have y0 : W.cell? ⟨ga, 0, none⟩ = some (.int .u8 0) := by
  have := A0.out.cell 0
  rw [this]
  show some (Value.int .u8 x.d) = _
  rw [hd]
 clear hd h1 hi hx
 go_upto_region 7 with fail
 have KX := hHd ((Kp.refl (fun _ => False) W).drew)
 refine wp_region_held_drew (S := fun v => v.cell? ⟨gx, 1, none⟩ = some (.pointer (some ⟨gs, 0, none⟩)) /\ Box v ga 30 x.cells) (by kernel_rfl) (⟨M0.out.cells.2.1, A0.out⟩) (fun hHeld => ?_)
 refine tk 0 (h := ?_)
 refine tk 1 (h := ?_)
 refine tk 2 (h := ?_)
 refine tk 3 (v := ?_) (hy := ?_) (h := ?_)
 rotate_left
 ·intro v hSw
  have y := hSw.1
  go_simp
  with_reducible rfl
 refine tk 4 (h := ?_)
 refine tk 5 (v := ?_) (hy := ?_) (h := ?_)
 rotate_left
 ·intro v hSw
  have y : v.cell? ⟨ga, 1, none⟩ = some (.int .i64 x.n) := hSw.2.cell 1
  go_simp
  with_reducible rfl
 refine tk 6 (h := ?_)
 refine tk 7 (v := ?_) (hy := ?_) (h := ?_)
 rotate_left
 ·intro v hSw
  have y : v.cell? ⟨ga, 2, none⟩ = some (.int .u8 x.c.toNat) := hSw.2.cell 2
  go_simp
  with_reducible rfl
 refine rd 8 (h := fun K hK => ?_)
 go_simp
 refine (full_any x.c _).mono ?_
 rintro e wf ⟨gb, rfl, hbf, hgf, hkf⟩
 have KF := hHd (KX.out.trans hkf)
 have BF := hHd hbf
 have GF := hHd hgf
 have AF := hHd (A0.out.kp KF.out (fun e => e))
 clear hbf hgf hkf
 go_wp2_with fail
 obtain ⟨F1, hF1⟩ : ∃ Fj, Thr F0 W.heap.size wf.heap.size = Fj := ⟨_, rfl⟩
 have M1 := hHd (M0.out.thr KF.out)
 have S1 := hHd (S0.out.thr KF.out)
 rw [hF1] at M1 S1
 have SUB1 := hHd (show ∀ k, F1 k -> F k from fun k e => by rw [<- hF1] at e; exact SUB0.out k e.1)
 have OUT1 := hHd (show ∀ k, W.heap.size <= k -> k < wf.heap.size -> ¬ F1 k from fun k h1 h2 e => by rw [<- hF1] at e; exact Thr.out h1 h2 e)
 have LE1 := hHd (show ∀ k, F1 k -> F0 k from fun k e => by rw [<- hF1] at e; exact e.1)
 clear hF1
 have CX := hHd M1.out.cells.2.1
 refine hK.out _ _ (⟨CX.out, AF.out⟩) (fun hHeld17 => ?_)
 clear hK K
 try simp only [Act.put, sIa, sI0, sI1]
 refine rd 9 (h := fun K hK => ?_)
 go_simp
 have hrd : Rd wf (some ⟨gb, 0, none⟩) (fullL x.c) := (.inr ⟨gb, 0, rfl, fun j u hj => by
   rw [Nat.zero_add, BF.out.cell, List.getElem?_toArray]
   unfold bcs
   rw [List.getElem?_map, hj]
   rfl⟩)
 have hput := pputs_any S1.out M1.out.new x.n (some ⟨gb, 0, none⟩) (fullL x.c) 512 hrd (fun ad e => by
  injection e with e
  rw [<- e]
  have hsz := KX.out.size
  have hlt := BF.out.lt
  exact OUT1.out gb (Nat.le_trans hsz GF.out) hlt)
 rw [fullL_length, show s.putS d x.n (fullL x.c) = ({ s with dead := false, chg := s.chg.put i (fullL x.c) }, 0) by rw [HX.out]; exact putS_yes ST.out i (fullL x.c) H1.out HI.out (fullL_length _)] at hput
 refine hput.mono ?_
 clear hput hrd
 rintro e w2 ⟨rfl, hs2, hk2⟩
 have M2 := hHd (M1.out.kp hk2)
 have S2 := hHd hs2
 have NAX := hHd (show ¬ F1 ga from fun e => NA0.out (LE1.out ga e))
 have A2 := hHd (AF.out.kp hk2 NAX.out)
 have K2 := hHd ((K0.out.trans KF.out.of_false).trans (hk2.mono fun k _ e => .inl (SUB1.out k e)))
 have CX2 := hHd M2.out.cells.2.1
 have SUB2 := hHd SUB1.out
 clear hs2 hk2
 go_wp2_with fail
 refine hK.out _ _ (⟨CX2.out, A2.out⟩) (fun hHeld18 => ?_)
 clear hK K
 try simp only [Act.put, sIa, sI0, sI1]
 refine tk 10 (h := ?_)
 refine wpAnyH_done (by kernel_rfl) ?_ _
 clear hHeld
 obtain ⟨F2, hF2⟩ : ∃ F2, F1 = F2 := ⟨_, rfl⟩
 rw [hF2] at M2 S2 SUB2
 clear hF2
 go_upto_region 8 with fail
 clear KF BF GF AF CX KX
 have KX := hHd ((Kp.refl (fun _ => False) w2).drew)
 refine wp_region_held_drew (S := fun v => Box v ga 30 x.cells) (by kernel_rfl) ((A2.out.kp KX.out (fun e => e))) (fun hHeld => ?_)
 refine tk 0 (h := ?_)
 refine tk 1 (h := ?_)
 refine tk 2 (h := ?_)
 refine tk 3 (h := ?_)
 refine tk 5 (h := ?_)
 refine tk 6 (v := ?_) (hy := ?_) (h := ?_)
 rotate_left
 ·intro v hSw
  have y : v.cell? ⟨ga, 1, none⟩ = some (.int .i64 x.n) := hSw.cell 1
  go_simp
  with_reducible rfl
 refine tk 7 (h := ?_)
 refine tk 8 (v := ?_) (hy := ?_) (h := ?_)
 rotate_left
 ·intro v hSw
  have y : v.cell? ⟨ga, 2, none⟩ = some (.int .u8 x.c.toNat) := hSw.cell 2
  go_simp
  with_reducible rfl
 refine wpAnyH_ready (rs := [4, 9]) (by kernel_rfl) (by simp) ?_
 refine rdc 4 (h := fun K hK => ?_) (hs := rdc 9 (h := fun K hK => ?_) (hs := AllReadyH.nil))
 ·rw [if_pos (by rfl)]
  refine wp_load_mid 39 (.tmp 62) rfl gx 2 rfl (rsV a c g R) _ (M2.out.still KX.out).rs Tryz.underlying39 rfl (infoRs _ _ _ _) ?_
  refine hK.out _ _ ((A2.out.kp KX.out (fun e => e))) (fun hHeld31 => ?_)
  clear hK K
  try simp only [Act.put, sIa, sI0, sI1]
  refine rd 9 (h := fun K hK => ?_)
  go_simp
  refine (full_any x.c _).mono ?_
  rintro e wf ⟨gc, rfl, hbf, hgf, hkf⟩
  have KF := hHd (KX.out.trans hkf)
  have BF := hHd hbf
  clear hbf hgf hkf KX
  have KX := hHd KF.out
  go_wp2_with fail
  refine hK.out _ _ ((A2.out.kp KX.out (fun e => e))) (fun hHeld19 => ?_)
  clear hK K
  try simp only [Act.put, sIa, sI0, sI1]
  refine rd 10 (h := fun K hK => ?_)
  have hrd : Rd wf (some ⟨gc, 0, none⟩) (fullL x.c) := .inr ⟨gc, 0, rfl, fun j u hj => by
   rw [Nat.zero_add, BF.out.cell, List.getElem?_toArray]
   unfold bcs
   rw [List.getElem?_map, hj]
   rfl⟩
  have ht := hrd.text (P := Tryz.prog) 50 9 5 512 Tryz.underlying50 Tryz.underlying5 Tryz.underlying9
  rw [fullL_length] at ht
  go_simp
  clear ht hrd
  refine hK.out _ _ ((A2.out.kp KX.out (fun e => e))) (fun hHeld20 => ?_)
  clear hK K
  try simp only [Act.put, sIa, sI0, sI1]
  refine rd 11 (h := fun K hK => ?_)
  go_simp
  have hcall := rput_yes (M2.out.rv.still KX.out) i H1.out (by rw [RL.out.len]; exact HI.out) (fullL x.c) (fullL_length _)
  rw [<- HX.out] at hcall
  refine hcall.mono ?_
  clear hcall
  rintro e w5 ⟨g', rfl, hr, hg', hk5⟩
  have K5 := hHd (KX.out.trans hk5)
  obtain ⟨F3, hF3⟩ : ∃ Fj, Thr F2 w2.heap.size w5.heap.size = Fj := ⟨_, rfl⟩
  have M3 := hHd (M2.out.thr K5.out)
  have S3 := hHd (S2.out.thr K5.out)
  rw [hF3] at M3 S3
  have SUB3 := hHd (show ∀ k, F3 k -> F k from fun k e => by rw [<- hF3] at e; exact SUB2.out k e.1)
  have OUT3 := hHd (show ∀ k, w2.heap.size <= k -> k < w5.heap.size -> ¬ F3 k from fun k h1 h2 e => by rw [<- hF3] at e; exact Thr.out h1 h2 e)
  have LE3 := hHd (show ∀ k, F3 k -> F2 k from fun k e => by rw [<- hF3] at e; exact e.1)
  clear hF3
  have R3 := hHd hr
  have NG := hHd (OUT3.out g' (Nat.le_trans KX.out.size hg') hr.lt.2)
  have A5 := hHd (A2.out.kp K5.out (fun e => e))
  clear hr hg' hk5
  go_wp2_with fail
  refine hK.out _ _ (A5.out) (fun hHeld21 => ?_)
  clear hK K
  try simp only [Act.put, sIa, sI0, sI1]
  refine tk 12 (h := ?_)
  refine tk 13 (h := ?_)
  refine tk 14 (h := ?_)
  refine tk 15 (h := ?_)
  refine tk 16 (h := ?_)
  refine rd 17 (h := fun K hK => ?_)
  rw [if_pos (by rfl)]
  refine wp_store_part 39 (.tmp 74) (.tmp 71) rfl gx [.pointer (some ⟨b, 0, none⟩), .pointer (some ⟨gs, 0, none⟩)] (rsV a c g R) (rsV a c g' ⟨R.pg, R.chg.put i (fullL x.c)⟩) [.int .i64 (L : Int)] rfl rfl M3.out.x rfl (infoRs _ _ _ _) (rsV_one _ _ _ _) ?_
  intro w6 hb6 hk6
  have M6 := hHd (M3.out.told R3.out M3.out.fa NG.out hb6 hk6)
  have S6 := hHd (S3.out.off M3.out.fx hk6)
  have A6 := hHd (A5.out.kp hk6 (A5.out.type_ne M3.out.x (by decide)))
  have K6 := hHd ((K2.out.trans K5.out.of_false).trans (hk6.mono fun k _ e => .inr e))
  clear hb6 hk6
  refine hK.out _ _ (A6.out) (fun hHeld22 => ?_)
  clear hK K
  try simp only [Act.put]
  refine tk 18 (h := ?_)
  refine wpAnyH_done (by kernel_rfl) ?_ _
  clear hHeld
  go_wp2_with fail
  go_ret
  exact ⟨K6.out, F3, SUB3.out, .inl ⟨rfl, gs, gl, g1, g2, a, c, g', { s with dead := false, chg := s.chg.put i (fullL x.c) }, d, _, C, ⟨M6.out, S6.out, (ST.out.put i (fullL x.c) HI.out (fullL_length _)).mono (by omega), RL.out.put i (fullL x.c) H1.out, NT.out⟩, .inl rfl, fun h => h⟩⟩
 ·go_simp
  refine (full_any x.c _).mono ?_
  rintro e wf ⟨gc, rfl, hbf, hgf, hkf⟩
  have KF := hHd (KX.out.trans hkf)
  have BF := hHd hbf
  clear hbf hgf hkf KX
  have KX := hHd KF.out
  go_wp2_with fail
  refine hK.out _ _ ((A2.out.kp KX.out (fun e => e))) (fun hHeld32 => ?_)
  clear hK K
  try simp only [Act.put, sIa, sI0, sI1]
  refine wpAnyH_ready (rs := [4, 10]) (by kernel_rfl) (by simp) ?_
  refine rdc 4 (h := fun K hK => ?_) (hs := rdc 10 (h := fun K hK => ?_) (hs := AllReadyH.nil))
  ·rw [if_pos (by rfl)]
   refine wp_load_mid 39 (.tmp 62) rfl gx 2 rfl (rsV a c g R) _ (M2.out.still KX.out).rs Tryz.underlying39 rfl (infoRs _ _ _ _) ?_
   refine hK.out _ _ ((A2.out.kp KX.out (fun e => e))) (fun hHeld29 => ?_)
   clear hK K
   try simp only [Act.put, sIa, sI0, sI1]
   refine rd 10 (h := fun K hK => ?_)
   have hrd : Rd wf (some ⟨gc, 0, none⟩) (fullL x.c) := .inr ⟨gc, 0, rfl, fun j u hj => by
    rw [Nat.zero_add, BF.out.cell, List.getElem?_toArray]
    unfold bcs
    rw [List.getElem?_map, hj]
    rfl⟩
   have ht := hrd.text (P := Tryz.prog) 50 9 5 512 Tryz.underlying50 Tryz.underlying5 Tryz.underlying9
   rw [fullL_length] at ht
   go_simp
   clear ht hrd
   refine hK.out _ _ ((A2.out.kp KX.out (fun e => e))) (fun hHeld23 => ?_)
   clear hK K
   try simp only [Act.put, sIa, sI0, sI1]
   refine rd 11 (h := fun K hK => ?_)
   go_simp
   have hcall := rput_yes (M2.out.rv.still KX.out) i H1.out (by rw [RL.out.len]; exact HI.out) (fullL x.c) (fullL_length _)
   rw [<- HX.out] at hcall
   refine hcall.mono ?_
   clear hcall
   rintro e w5 ⟨g', rfl, hr, hg', hk5⟩
   have K5 := hHd (KX.out.trans hk5)
   obtain ⟨F3, hF3⟩ : ∃ Fj, Thr F2 w2.heap.size w5.heap.size = Fj := ⟨_, rfl⟩
   have M3 := hHd (M2.out.thr K5.out)
   have S3 := hHd (S2.out.thr K5.out)
   rw [hF3] at M3 S3
   have SUB3 := hHd (show ∀ k, F3 k -> F k from fun k e => by rw [<- hF3] at e; exact SUB2.out k e.1)
   have OUT3 := hHd (show ∀ k, w2.heap.size <= k -> k < w5.heap.size -> ¬ F3 k from fun k h1 h2 e => by rw [<- hF3] at e; exact Thr.out h1 h2 e)
   have LE3 := hHd (show ∀ k, F3 k -> F2 k from fun k e => by rw [<- hF3] at e; exact e.1)
   clear hF3
   have R3 := hHd hr
   have NG := hHd (OUT3.out g' (Nat.le_trans KX.out.size hg') hr.lt.2)
   have A5 := hHd (A2.out.kp K5.out (fun e => e))
   clear hr hg' hk5
   go_wp2_with fail
   refine hK.out _ _ (A5.out) (fun hHeld24 => ?_)
   clear hK K
   try simp only [Act.put, sIa, sI0, sI1]
   refine tk 12 (h := ?_)
   refine tk 13 (h := ?_)
   refine tk 14 (h := ?_)
   refine tk 15 (h := ?_)
   refine tk 16 (h := ?_)
   refine rd 17 (h := fun K hK => ?_)
   rw [if_pos (by rfl)]
   refine wp_store_part 39 (.tmp 74) (.tmp 71) rfl gx [.pointer (some ⟨b, 0, none⟩), .pointer (some ⟨gs, 0, none⟩)] (rsV a c g R) (rsV a c g' ⟨R.pg, R.chg.put i (fullL x.c)⟩) [.int .i64 (L : Int)] rfl rfl M3.out.x rfl (infoRs _ _ _ _) (rsV_one _ _ _ _) ?_
   intro w6 hb6 hk6
   have M6 := hHd (M3.out.told R3.out M3.out.fa NG.out hb6 hk6)
   have S6 := hHd (S3.out.off M3.out.fx hk6)
   have A6 := hHd (A5.out.kp hk6 (A5.out.type_ne M3.out.x (by decide)))
   have K6 := hHd ((K2.out.trans K5.out.of_false).trans (hk6.mono fun k _ e => .inr e))
   clear hb6 hk6
   refine hK.out _ _ (A6.out) (fun hHeld25 => ?_)
   clear hK K
   try simp only [Act.put]
   refine tk 18 (h := ?_)
   refine wpAnyH_done (by kernel_rfl) ?_ _
   clear hHeld
   go_wp2_with fail
   go_ret
   exact ⟨K6.out, F3, SUB3.out, .inl ⟨rfl, gs, gl, g1, g2, a, c, g', { s with dead := false, chg := s.chg.put i (fullL x.c) }, d, _, C, ⟨M6.out, S6.out, (ST.out.put i (fullL x.c) HI.out (fullL_length _)).mono (by omega), RL.out.put i (fullL x.c) H1.out, NT.out⟩, .inl rfl, fun h => h⟩⟩
  ·have hrd : Rd wf (some ⟨gc, 0, none⟩) (fullL x.c) := .inr ⟨gc, 0, rfl, fun j u hj => by
    rw [Nat.zero_add, BF.out.cell, List.getElem?_toArray]
    unfold bcs
    rw [List.getElem?_map, hj]
    rfl⟩
   have ht := hrd.text (P := Tryz.prog) 50 9 5 512 Tryz.underlying50 Tryz.underlying5 Tryz.underlying9
   rw [fullL_length] at ht
   go_simp
   clear ht hrd
   refine hK.out _ _ ((A2.out.kp KX.out (fun e => e))) (fun hHeld30 => ?_)
   clear hK K
   try simp only [Act.put, sIa, sI0, sI1]
   refine rd 4 (h := fun K hK => ?_)
   rw [if_pos (by rfl)]
   refine wp_load_mid 39 (.tmp 62) rfl gx 2 rfl (rsV a c g R) _ (M2.out.still KX.out).rs Tryz.underlying39 rfl (infoRs _ _ _ _) ?_
   refine hK.out _ _ ((A2.out.kp KX.out (fun e => e))) (fun hHeld26 => ?_)
   clear hK K
   try simp only [Act.put, sIa, sI0, sI1]
   refine rd 11 (h := fun K hK => ?_)
   go_simp
   have hcall := rput_yes (M2.out.rv.still KX.out) i H1.out (by rw [RL.out.len]; exact HI.out) (fullL x.c) (fullL_length _)
   rw [<- HX.out] at hcall
   refine hcall.mono ?_
   clear hcall
   rintro e w5 ⟨g', rfl, hr, hg', hk5⟩
   have K5 := hHd (KX.out.trans hk5)
   obtain ⟨F3, hF3⟩ : ∃ Fj, Thr F2 w2.heap.size w5.heap.size = Fj := ⟨_, rfl⟩
   have M3 := hHd (M2.out.thr K5.out)
   have S3 := hHd (S2.out.thr K5.out)
   rw [hF3] at M3 S3
   have SUB3 := hHd (show ∀ k, F3 k -> F k from fun k e => by rw [<- hF3] at e; exact SUB2.out k e.1)
   have OUT3 := hHd (show ∀ k, w2.heap.size <= k -> k < w5.heap.size -> ¬ F3 k from fun k h1 h2 e => by rw [<- hF3] at e; exact Thr.out h1 h2 e)
   have LE3 := hHd (show ∀ k, F3 k -> F2 k from fun k e => by rw [<- hF3] at e; exact e.1)
   clear hF3
   have R3 := hHd hr
   have NG := hHd (OUT3.out g' (Nat.le_trans KX.out.size hg') hr.lt.2)
   have A5 := hHd (A2.out.kp K5.out (fun e => e))
   clear hr hg' hk5
   go_wp2_with fail
   refine hK.out _ _ (A5.out) (fun hHeld27 => ?_)
   clear hK K
   try simp only [Act.put, sIa, sI0, sI1]
   refine tk 12 (h := ?_)
   refine tk 13 (h := ?_)
   refine tk 14 (h := ?_)
   refine tk 15 (h := ?_)
   refine tk 16 (h := ?_)
   refine rd 17 (h := fun K hK => ?_)
   rw [if_pos (by rfl)]
   refine wp_store_part 39 (.tmp 74) (.tmp 71) rfl gx [.pointer (some ⟨b, 0, none⟩), .pointer (some ⟨gs, 0, none⟩)] (rsV a c g R) (rsV a c g' ⟨R.pg, R.chg.put i (fullL x.c)⟩) [.int .i64 (L : Int)] rfl rfl M3.out.x rfl (infoRs _ _ _ _) (rsV_one _ _ _ _) ?_
   intro w6 hb6 hk6
   have M6 := hHd (M3.out.told R3.out M3.out.fa NG.out hb6 hk6)
   have S6 := hHd (S3.out.off M3.out.fx hk6)
   have A6 := hHd (A5.out.kp hk6 (A5.out.type_ne M3.out.x (by decide)))
   have K6 := hHd ((K2.out.trans K5.out.of_false).trans (hk6.mono fun k _ e => .inr e))
   clear hb6 hk6
   refine hK.out _ _ (A6.out) (fun hHeld28 => ?_)
   clear hK K
   try simp only [Act.put]
   refine tk 18 (h := ?_)
   refine wpAnyH_done (by kernel_rfl) ?_ _
   clear hHeld
   go_wp2_with fail
   go_ret
   exact ⟨K6.out, F3, SUB3.out, .inl ⟨rfl, gs, gl, g1, g2, a, c, g', { s with dead := false, chg := s.chg.put i (fullL x.c) }, d, _, C, ⟨M6.out, S6.out, (ST.out.put i (fullL x.c) HI.out (fullL_length _)).mono (by omega), RL.out.put i (fullL x.c) H1.out, NT.out⟩, .inl rfl, fun h => h⟩⟩
end
end Go.Proofs.YtepaeliamhjgiaaGreatDoor
