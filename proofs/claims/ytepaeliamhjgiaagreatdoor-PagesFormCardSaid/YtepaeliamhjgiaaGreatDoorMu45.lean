/- The law of pages, part 45 of 55: PgD2 PgD8. -/
import Derived.Test.YtepaeliamhjgiaaGreatDoorMu1
import Derived.Test.YtepaeliamhjgiaaGreatDoorMu44
set_option maxHeartbeats 16000000
set_option maxRecDepth 100000
namespace Go.Proofs.YtepaeliamhjgiaaGreatDoor
open Go.RowKit Go.Maps Go.Shelf
section
variable {B : Nat} {F : Nat -> Prop} {w : World} {gx gs gl b g1 g2 a c g L N : Nat} {s : Sm} {d : Dm} {R : Rs} {C : Nat -> List UInt8}
theorem does2_no (J : Jx B F w gx gs gl b g1 g2 a c g L N s d R C) (hN : N + 2000 < 18446744073709551616) (x : Aw) (ok : x.Ok) (hd : x.d = 2) (hx : x.n < 1 \/ (128 : Int) <= x.n \/ (0 <= x.n /\ s.cused x.n.toNat = false)) :
  Calls Tryz.prog 9 #[.pointer (some ⟨gx, 0, none⟩), .agg x.cells] w fun e w' => Kp (fun k => F k \/ k = gx) w w' /\ DidOk B F w' gx b L N d R C false e := by
 have HNN := hHd hN
 have ST := hHd J.st
 have RL := hHd J.rel
 have NT := hHd J.note
 have OKX := hHd ok
 obtain ⟨W, hW, ba, kW⟩ : ∃ W, W = w.alloc (.cells x.cells 30) /\ Box W w.heap.size 30 x.cells /\ Kp (fun _ => False) w W := ⟨_, rfl, Box.new w _ _, (Kp.refl _ w).alloc _⟩
 have HW := hHd hW
 have M9 := hHd J.m
 have S9 := hHd J.sto
 have SUB9 := hHd (show ∀ k, F k -> F k from fun k e => e)
 have hgl := ba.lt
 obtain ⟨F0, hF0⟩ : ∃ Fj, Thr F w.heap.size W.heap.size = Fj := ⟨_, rfl⟩
 have M0 := hHd (M9.out.thr kW)
 have S0 := hHd (S9.out.thr kW)
 rw [hF0] at M0 S0
 have SUB0 := hHd (show ∀ k, F0 k -> F k from fun k e => by rw [<- hF0] at e; exact SUB9.out k e.1)
 have OUT0 := hHd (show ∀ k, w.heap.size <= k -> k < W.heap.size -> ¬ F0 k from fun k h1 h2 e => by rw [<- hF0] at e; exact Thr.out h1 h2 e)
 have LE0 := hHd (show ∀ k, F0 k -> F k from fun k e => by rw [<- hF0] at e; exact e.1)
 clear hF0
 obtain ⟨ga, hga⟩ : ∃ ga, w.heap.size = ga := ⟨_, rfl⟩
 have NA0 := hHd (show ¬ F0 ga from OUT0.out ga (by omega) (by omega))
 rw [hga] at ba
 have A0 := hHd ba
 have K0 := hHd (kW.of_false (S := fun k => F k \/ k = gx))
 have HGA := hHd hga
 have HX := hHd hx
 clear J hN ok hW ba kW M9 S9 SUB9 hgl hga
 go_enter Tryz.func9, Tryz.ntmps9
 go_upto_region 1 with fail
 rw [<- HW.out]
 try rw [HGA.out]
 have y0 : W.cell? ⟨ga, 0, none⟩ = some (.int .u8 2) := by
  have := A0.out.cell 0
  rw [this]
  show some (Value.int .u8 x.d) = _
  rw [hd]
 clear hd hx
 go_upto_region 17 with fail
 have KX := hHd ((Kp.refl (fun _ => False) W).drew)
 refine wp_region_held_drew (S := fun v => v.cell? ⟨gx, 1, none⟩ = some (.pointer (some ⟨gs, 0, none⟩)) /\ Box v ga 30 x.cells) (by kernel_rfl) (⟨M0.out.cells.2.1, A0.out⟩) (fun hHeld => ?_)
 refine tk 0 (h := ?_)
 refine tk 1 (h := ?_)
 refine tk 2 (h := ?_)
 refine tk 3 (v := ?_) (hy := ?_) (h := ?_)
 rotate_left
 ·intro v hSw
  have y := hSw.1
  go_simp
  with_reducible rfl
 refine tk 4 (h := ?_)
 refine tk 5 (v := ?_) (hy := ?_) (h := ?_)
 rotate_left
 ·intro v hSw
  have y : v.cell? ⟨ga, 1, none⟩ = some (.int .i64 x.n) := hSw.2.cell 1
  go_simp
  with_reducible rfl
 refine rd 6 (h := fun K hK => ?_)
 go_simp
 have hput := pfrees_any (S0.out.still KX.out) (by rw [ST.out.hs]; decide) x.n
 rw [freeS_no ST.out x.n HX.out] at hput
 refine hput.mono ?_
 clear hput
 rintro e w2 ⟨rfl, hs2, hk2⟩
 have M2 := hHd (M0.out.kp (KX.out.of_false.trans hk2))
 have S2 := hHd hs2
 have A2 := hHd ((A0.out.kp KX.out (fun e => e)).kp hk2 NA0.out)
 have K2 := hHd ((K0.out.trans KX.out.of_false).trans (hk2.mono fun k _ e => .inl (SUB0.out k e)))
 have CX2 := hHd M2.out.cells.2.1
 have SUB2 := hHd SUB0.out
 clear hs2 hk2
 go_wp2_with fail
 refine hK.out _ _ (⟨CX2.out, A2.out⟩) (fun hHeld33 => ?_)
 clear hK K
 try simp only [Act.put, sIa, sI0, sI1]
 refine tk 7 (h := ?_)
 refine wpAnyH_done (by kernel_rfl) ?_ _
 clear hHeld
 obtain ⟨F2, hF2⟩ : ∃ F2, F0 = F2 := ⟨_, rfl⟩
 rw [hF2] at M2 S2 SUB2
 clear hF2 KX CX2
 go_upto_region 18 with fail
 have KX := hHd ((Kp.refl (fun _ => False) w2).drew)
 refine wp_region_held_drew (S := fun v => Box v ga 30 x.cells) (by kernel_rfl) ((A2.out.kp KX.out (fun e => e))) (fun hHeld => ?_)
 refine tk 0 (h := ?_)
 refine tk 1 (h := ?_)
 refine tk 2 (h := ?_)
 refine tk 3 (h := ?_)
 refine tk 5 (h := ?_)
 refine tk 6 (v := ?_) (hy := ?_) (h := ?_)
 rotate_left
 ·intro v hSw
  have y : v.cell? ⟨ga, 1, none⟩ = some (.int .i64 x.n) := hSw.cell 1
  go_simp
  with_reducible rfl
 refine rd 4 (h := fun K hK => ?_)
 rw [if_pos (by rfl)]
 refine wp_load_mid 39 (.tmp 125) rfl gx 2 rfl (rsV a c g R) _ (M2.out.still KX.out).rs Tryz.underlying39 rfl (infoRs _ _ _ _) ?_
 refine hK.out _ _ ((A2.out.kp KX.out (fun e => e))) (fun hHeld34 => ?_)
 clear hK K
 try simp only [Act.put, sIa, sI0, sI1]
 refine rd 7 (h := fun K hK => ?_)
 go_simp
 have hcall := rfree_no (M2.out.rv.still KX.out) x.n (by rw [RL.out.len, RL.out.bit]; exact HX.out)
 refine hcall.mono ?_
 clear hcall
 rintro e w5 ⟨rfl, hk5⟩
 have K5 := hHd (KX.out.trans hk5)
 obtain ⟨F3, hF3⟩ : ∃ Fj, Thr F2 w2.heap.size w5.heap.size = Fj := ⟨_, rfl⟩
 have M3 := hHd (M2.out.thr K5.out)
 have S3 := hHd (S2.out.thr K5.out)
 rw [hF3] at M3 S3
 have SUB3 := hHd (show ∀ k, F3 k -> F k from fun k e => by rw [<- hF3] at e; exact SUB2.out k e.1)
 have OUT3 := hHd (show ∀ k, w2.heap.size <= k -> k < w5.heap.size -> ¬ F3 k from fun k h1 h2 e => by rw [<- hF3] at e; exact Thr.out h1 h2 e)
 have LE3 := hHd (show ∀ k, F3 k -> F2 k from fun k e => by rw [<- hF3] at e; exact e.1)
 clear hF3
 have R3 := hHd M3.out.rv
 have NG := hHd M3.out.fg
 have A5 := hHd (A2.out.kp K5.out (fun e => e))
 clear hk5
 go_wp2_with fail
 refine hK.out _ _ (A5.out) (fun hHeld35 => ?_)
 clear hK K
 try simp only [Act.put, sIa, sI0, sI1]
 refine tk 8 (h := ?_)
 refine tk 9 (h := ?_)
 refine tk 10 (h := ?_)
 refine tk 11 (h := ?_)
 refine tk 12 (h := ?_)
 refine rd 13 (h := fun K hK => ?_)
 rw [if_pos (by rfl)]
 refine wp_store_part 39 (.tmp 133) (.tmp 130) rfl gx [.pointer (some ⟨b, 0, none⟩), .pointer (some ⟨gs, 0, none⟩)] (rsV a c g R) (rsV a c g R) [.int .i64 (L : Int)] rfl rfl M3.out.x rfl (infoRs _ _ _ _) (rsV_one _ _ _ _) ?_
 intro w6 hb6 hk6
 have M6 := hHd (M3.out.told R3.out M3.out.fa NG.out hb6 hk6)
 have S6 := hHd (S3.out.off M3.out.fx hk6)
 have A6 := hHd (A5.out.kp hk6 (A5.out.type_ne M3.out.x (by decide)))
 have K6 := hHd ((K2.out.trans K5.out.of_false).trans (hk6.mono fun k _ e => .inr e))
 clear hb6 hk6
 refine hK.out _ _ (A6.out) (fun hHeld36 => ?_)
 clear hK K
 try simp only [Act.put]
 refine tk 14 (h := ?_)
 refine wpAnyH_done (by kernel_rfl) ?_ _
 clear hHeld
 go_wp2_with fail
 go_ret
 exact ⟨K6.out, F3, SUB3.out, .inl ⟨rfl, gs, gl, g1, g2, a, c, g, s, d, _, C, ⟨M6.out, S6.out, ST.out.mono (by omega), RL.out, NT.out⟩, .inl rfl, fun h => h⟩⟩
theorem does2_yes (J : Jx B F w gx gs gl b g1 g2 a c g L N s d R C) (hN : N + 2000 < 18446744073709551616) (x : Aw) (ok : x.Ok) (hd : x.d = 2) (i : Nat) (hx : x.n = (i : Int)) (h1 : 1 <= i) (hi : i < 128) (hb : s.cused i = true) :
  Calls Tryz.prog 9 #[.pointer (some ⟨gx, 0, none⟩), .agg x.cells] w fun e w' => Kp (fun k => F k \/ k = gx) w w' /\ DidOk B F w' gx b L N d R C false e := by
 have HNN := hHd hN
 have ST := hHd J.st
 have RL := hHd J.rel
 have NT := hHd J.note
 have OKX := hHd ok
 obtain ⟨W, hW, ba, kW⟩ : ∃ W, W = w.alloc (.cells x.cells 30) /\ Box W w.heap.size 30 x.cells /\ Kp (fun _ => False) w W := ⟨_, rfl, Box.new w _ _, (Kp.refl _ w).alloc _⟩
 have HW := hHd hW
 have M9 := hHd J.m
 have S9 := hHd J.sto
 have SUB9 := hHd (show ∀ k, F k -> F k from fun k e => e)
 have hgl := ba.lt
 obtain ⟨F0, hF0⟩ : ∃ Fj, Thr F w.heap.size W.heap.size = Fj := ⟨_, rfl⟩
 have M0 := hHd (M9.out.thr kW)
 have S0 := hHd (S9.out.thr kW)
 rw [hF0] at M0 S0
 have SUB0 := hHd (show ∀ k, F0 k -> F k from fun k e => by rw [<- hF0] at e; exact SUB9.out k e.1)
 have OUT0 := hHd (show ∀ k, w.heap.size <= k -> k < W.heap.size -> ¬ F0 k from fun k h1 h2 e => by rw [<- hF0] at e; exact Thr.out h1 h2 e)
 have LE0 := hHd (show ∀ k, F0 k -> F k from fun k e => by rw [<- hF0] at e; exact e.1)
 clear hF0
 obtain ⟨ga, hga⟩ : ∃ ga, w.heap.size = ga := ⟨_, rfl⟩
 have NA0 := hHd (show ¬ F0 ga from OUT0.out ga (by omega) (by omega))
 rw [hga] at ba
 have A0 := hHd ba
 have K0 := hHd (kW.of_false (S := fun k => F k \/ k = gx))
 have HGA := hHd hga
 have HI := hHd hi
 have H1 := hHd h1
 have HX := hHd hx
 have HB := hHd hb
 clear J hN ok hW ba kW M9 S9 SUB9 hgl hga
 go_enter Tryz.func9, Tryz.ntmps9
 go_upto_region 1 with fail
 rw [<- HW.out]
 try rw [HGA.out]
 have y0 : W.cell? ⟨ga, 0, none⟩ = some (.int .u8 2) := by
  have := A0.out.cell 0
  rw [this]
  show some (Value.int .u8 x.d) = _
  rw [hd]
 clear hd h1 hi hx hb
 go_upto_region 17 with fail
 have KX := hHd ((Kp.refl (fun _ => False) W).drew)
 refine wp_region_held_drew (S := fun v => v.cell? ⟨gx, 1, none⟩ = some (.pointer (some ⟨gs, 0, none⟩)) /\ Box v ga 30 x.cells) (by kernel_rfl) (⟨M0.out.cells.2.1, A0.out⟩) (fun hHeld => ?_)
 refine tk 0 (h := ?_)
 refine tk 1 (h := ?_)
 refine tk 2 (h := ?_)
 refine tk 3 (v := ?_) (hy := ?_) (h := ?_)
 rotate_left
 ·intro v hSw
  have y := hSw.1
  go_simp
  with_reducible rfl
 refine tk 4 (h := ?_)
 refine tk 5 (v := ?_) (hy := ?_) (h := ?_)
 rotate_left
 ·intro v hSw
  have y : v.cell? ⟨ga, 1, none⟩ = some (.int .i64 x.n) := hSw.2.cell 1
  go_simp
  with_reducible rfl
 refine rd 6 (h := fun K hK => ?_)
 go_simp
 have hput := pfrees_any (S0.out.still KX.out) (by rw [ST.out.hs]; decide) x.n
 rw [show s.freeS d x.n = (({ s with dead := false } : Sm).useS (i : Int) false, 0) by rw [HX.out]; exact freeS_yes ST.out i H1.out HI.out HB.out] at hput
 refine hput.mono ?_
 clear hput
 rintro e w2 ⟨rfl, hs2, hk2⟩
 have M2 := hHd (M0.out.kp (KX.out.of_false.trans hk2))
 have S2 := hHd hs2
 have A2 := hHd ((A0.out.kp KX.out (fun e => e)).kp hk2 NA0.out)
 have K2 := hHd ((K0.out.trans KX.out.of_false).trans (hk2.mono fun k _ e => .inl (SUB0.out k e)))
 have CX2 := hHd M2.out.cells.2.1
 have SUB2 := hHd SUB0.out
 clear hs2 hk2
 go_wp2_with fail
 refine hK.out _ _ (⟨CX2.out, A2.out⟩) (fun hHeld37 => ?_)
 clear hK K
 try simp only [Act.put, sIa, sI0, sI1]
 refine tk 7 (h := ?_)
 refine wpAnyH_done (by kernel_rfl) ?_ _
 clear hHeld
 obtain ⟨F2, hF2⟩ : ∃ F2, F0 = F2 := ⟨_, rfl⟩
 rw [hF2] at M2 S2 SUB2
 clear hF2 KX CX2
 go_upto_region 18 with fail
 have KX := hHd ((Kp.refl (fun _ => False) w2).drew)
 refine wp_region_held_drew (S := fun v => Box v ga 30 x.cells) (by kernel_rfl) ((A2.out.kp KX.out (fun e => e))) (fun hHeld => ?_)
 refine tk 0 (h := ?_)
 refine tk 1 (h := ?_)
 refine tk 2 (h := ?_)
 refine tk 3 (h := ?_)
 refine tk 5 (h := ?_)
 refine tk 6 (v := ?_) (hy := ?_) (h := ?_)
 rotate_left
 ·intro v hSw
  have y : v.cell? ⟨ga, 1, none⟩ = some (.int .i64 x.n) := hSw.cell 1
  go_simp
  with_reducible rfl
 refine rd 4 (h := fun K hK => ?_)
 rw [if_pos (by rfl)]
 refine wp_load_mid 39 (.tmp 125) rfl gx 2 rfl (rsV a c g R) _ (M2.out.still KX.out).rs Tryz.underlying39 rfl (infoRs _ _ _ _) ?_
 refine hK.out _ _ ((A2.out.kp KX.out (fun e => e))) (fun hHeld38 => ?_)
 clear hK K
 try simp only [Act.put, sIa, sI0, sI1]
 refine rd 7 (h := fun K hK => ?_)
 go_simp
 have hcall := rfree_yes (M2.out.rv.still KX.out) i H1.out (by rw [RL.out.len]; exact HI.out) (by rw [RL.out.bit]; exact HB.out)
 rw [<- HX.out] at hcall
 refine hcall.mono ?_
 clear hcall
 rintro e w5 ⟨g', rfl, hr, hg', hk5⟩
 have K5 := hHd (KX.out.trans hk5)
 obtain ⟨F3, hF3⟩ : ∃ Fj, Thr F2 w2.heap.size w5.heap.size = Fj := ⟨_, rfl⟩
 have M3 := hHd (M2.out.thr K5.out)
 have S3 := hHd (S2.out.thr K5.out)
 rw [hF3] at M3 S3
 have SUB3 := hHd (show ∀ k, F3 k -> F k from fun k e => by rw [<- hF3] at e; exact SUB2.out k e.1)
 have OUT3 := hHd (show ∀ k, w2.heap.size <= k -> k < w5.heap.size -> ¬ F3 k from fun k h1 h2 e => by rw [<- hF3] at e; exact Thr.out h1 h2 e)
 have LE3 := hHd (show ∀ k, F3 k -> F2 k from fun k e => by rw [<- hF3] at e; exact e.1)
 clear hF3
 have R3 := hHd hr
 have NG := hHd (OUT3.out g' (Nat.le_trans KX.out.size hg') hr.lt.2)
 have A5 := hHd (A2.out.kp K5.out (fun e => e))
 clear hr hg' hk5
 go_wp2_with fail
 refine hK.out _ _ (A5.out) (fun hHeld39 => ?_)
 clear hK K
 try simp only [Act.put, sIa, sI0, sI1]
 refine tk 8 (h := ?_)
 refine tk 9 (h := ?_)
 refine tk 10 (h := ?_)
 refine tk 11 (h := ?_)
 refine tk 12 (h := ?_)
 refine rd 13 (h := fun K hK => ?_)
 rw [if_pos (by rfl)]
 refine wp_store_part 39 (.tmp 133) (.tmp 130) rfl gx [.pointer (some ⟨b, 0, none⟩), .pointer (some ⟨gs, 0, none⟩)] (rsV a c g R) (rsV a c g' (R.setR i)) [.int .i64 (L : Int)] rfl rfl M3.out.x rfl (infoRs _ _ _ _) (rsV_one _ _ _ _) ?_
 intro w6 hb6 hk6
 have M6 := hHd (M3.out.told R3.out M3.out.fa NG.out hb6 hk6)
 have S6 := hHd (S3.out.off M3.out.fx hk6)
 have A6 := hHd (A5.out.kp hk6 (A5.out.type_ne M3.out.x (by decide)))
 have K6 := hHd ((K2.out.trans K5.out.of_false).trans (hk6.mono fun k _ e => .inr e))
 clear hb6 hk6
 refine hK.out _ _ (A6.out) (fun hHeld40 => ?_)
 clear hK K
 try simp only [Act.put]
 refine tk 14 (h := ?_)
 refine wpAnyH_done (by kernel_rfl) ?_ _
 clear hHeld
 go_wp2_with fail
 go_ret
 exact ⟨K6.out, F3, SUB3.out, .inl ⟨rfl, gs, gl, g1, g2, a, c, g', ({ s with dead := false } : Sm).useS (i : Int) false, d, _, C, ⟨M6.out, S6.out, (ST.out.use (i : Int) false (by decide)).mono (by omega), RL.out.use ST.out.hs i HI.out H1.out false (by rw [HB.out]; rfl), NT.out⟩, .inl rfl, fun h => h⟩⟩
end
section
variable {B : Nat} {F : Nat -> Prop} {w : World} {gx gs gl b g1 g2 a c g L N : Nat} {s : Sm} {d : Dm} {R : Rs} {C : Nat -> List UInt8}
theorem does8_no (J : Jx B F w gx gs gl b g1 g2 a c g L N s d R C) (hN : N + 2000 < 18446744073709551616) (x : Aw) (ok : x.Ok) (hd : ¬ (x.d = 0 \/ x.d = 1 \/ x.d = 2 \/ x.d = 3 \/ x.d = 4 \/ x.d = 5 \/ x.d = 6 \/ x.d = 7)) (hx : x.n < 0 \/ (128 : Int) <= x.n) :
  Calls Tryz.prog 9 #[.pointer (some ⟨gx, 0, none⟩), .agg x.cells] w fun e w' => Kp (fun k => F k \/ k = gx) w w' /\ DidOk B F w' gx b L N d R C false e := by
 have HNN := hHd hN
 have ST := hHd J.st
 have RL := hHd J.rel
 have NT := hHd J.note
 have OKX := hHd ok
 obtain ⟨W, hW, ba, kW⟩ : ∃ W, W = w.alloc (.cells x.cells 30) /\ Box W w.heap.size 30 x.cells /\ Kp (fun _ => False) w W := ⟨_, rfl, Box.new w _ _, (Kp.refl _ w).alloc _⟩
 have HW := hHd hW
 have M9 := hHd J.m
 have S9 := hHd J.sto
 have SUB9 := hHd (show ∀ k, F k -> F k from fun k e => e)
 have hgl := ba.lt
 obtain ⟨F0, hF0⟩ : ∃ Fj, Thr F w.heap.size W.heap.size = Fj := ⟨_, rfl⟩
 have M0 := hHd (M9.out.thr kW)
 have S0 := hHd (S9.out.thr kW)
 rw [hF0] at M0 S0
 have SUB0 := hHd (show ∀ k, F0 k -> F k from fun k e => by rw [<- hF0] at e; exact SUB9.out k e.1)
 have OUT0 := hHd (show ∀ k, w.heap.size <= k -> k < W.heap.size -> ¬ F0 k from fun k h1 h2 e => by rw [<- hF0] at e; exact Thr.out h1 h2 e)
 have LE0 := hHd (show ∀ k, F0 k -> F k from fun k e => by rw [<- hF0] at e; exact e.1)
 clear hF0
 obtain ⟨ga, hga⟩ : ∃ ga, w.heap.size = ga := ⟨_, rfl⟩
 have NA0 := hHd (show ¬ F0 ga from OUT0.out ga (by omega) (by omega))
 rw [hga] at ba
 have A0 := hHd ba
 have K0 := hHd (kW.of_false (S := fun k => F k \/ k = gx))
 have HGA := hHd hga
 have HX := hHd hx
 clear J hN ok hW ba kW M9 S9 SUB9 hgl hga
 go_enter Tryz.func9, Tryz.ntmps9
 go_upto_region 1 with fail
 rw [<- HW.out]
 try rw [HGA.out]
 obtain ⟨z, hz⟩ : ∃ z, x.d = z := ⟨_, rfl⟩
 rw [hz] at hd
 have y0 := A0.out.cell 0
 rw [show x.cells[0]? = some (Value.int .u8 x.d) from rfl, hz] at y0
 have q0 : (z == 0) = false := by simp; omega
 have q1 : (z == 1) = false := by simp; omega
 have q2 : (z == 2) = false := by simp; omega
 have q3 : (z == 3) = false := by simp; omega
 have q4 : (z == 4) = false := by simp; omega
 have q5 : (z == 5) = false := by simp; omega
 have q6 : (z == 6) = false := by simp; omega
 have q7 : (z == 7) = false := by simp; omega
 clear hd hz
 clear hx
 go_upto_region 3 with fail
 clear y0 q0 q1 q2 q3 q4 q5 q6 q7
 have KX := hHd ((Kp.refl (fun _ => False) W).drew)
 refine wp_region_held_drew (S := fun v => v.cell? ⟨gx, 1, none⟩ = some (.pointer (some ⟨gs, 0, none⟩)) /\ Box v ga 30 x.cells) (by kernel_rfl) (⟨M0.out.cells.2.1, A0.out⟩) (fun hHeld => ?_)
 refine tk 0 (h := ?_)
 refine tk 1 (h := ?_)
 refine tk 2 (h := ?_)
 refine tk 3 (v := ?_) (hy := ?_) (h := ?_)
 rotate_left
 ·intro v hSw
  have y := hSw.1
  go_simp
  with_reducible rfl
 refine tk 4 (h := ?_)
 refine tk 5 (v := ?_) (hy := ?_) (h := ?_)
 rotate_left
 ·intro v hSw
  have y : v.cell? ⟨ga, 1, none⟩ = some (.int .i64 x.n) := hSw.2.cell 1
  go_simp
  with_reducible rfl
 refine rd 6 (h := fun K hK => ?_)
 go_simp
 have hput := ppages_read (S0.out.still KX.out) (by have := (ST.out.lok (by have := HNN.out; omega)).h_.hi; omega) x.n
 rw [pageS_no x.n ST.out HX.out] at hput
 obtain ⟨ll, hll⟩ : ∃ ll, ([] : List UInt8) = ll := ⟨_, rfl⟩
 have HLL := hHd hll
 rw [hll] at hput
 clear hll
 refine hput.mono ?_
 clear hput
 rintro e w2 ⟨Ab, cb, rfl, hrd, hs2, hk2⟩
 have M2 := hHd (M0.out.kp (KX.out.of_false.trans hk2))
 have S2 := hHd hs2
 have A2 := hHd ((A0.out.kp KX.out (fun e => e)).kp hk2 NA0.out)
 have K2 := hHd ((K0.out.trans KX.out.of_false).trans (hk2.mono fun k _ e => .inl (SUB0.out k e)))
 have CX2 := hHd M2.out.cells.2.1
 have SUB2 := hHd SUB0.out
 have RD2 := hHd hrd
 clear hrd
 clear hs2 hk2
 go_wp2_with fail
 refine hK.out _ _ (⟨CX2.out, A2.out⟩) (fun hHeld41 => ?_)
 clear hK K
 try simp only [Act.put, sIa, sI0, sI1]
 refine tk 7 (h := ?_)
 refine tk 8 (h := ?_)
 refine tk 9 (h := ?_)
 refine tk 10 (h := ?_)
 refine tk 11 (h := ?_)
 refine wpAnyH_done (by kernel_rfl) ?_ _
 clear hHeld
 obtain ⟨F2, hF2⟩ : ∃ F2, F0 = F2 := ⟨_, rfl⟩
 rw [hF2] at M2 S2 SUB2
 clear hF2 KX CX2
 go_upto_region 4 with fail
 have KX := hHd ((Kp.refl (fun _ => False) w2).drew)
 refine wp_region_held_drew (S := fun v => Box v ga 30 x.cells) (by kernel_rfl) ((A2.out.kp KX.out (fun e => e))) (fun hHeld => ?_)
 refine tk 0 (h := ?_)
 refine tk 1 (h := ?_)
 refine tk 2 (h := ?_)
 refine tk 4 (h := ?_)
 refine tk 5 (v := ?_) (hy := ?_) (h := ?_)
 rotate_left
 ·intro v hSw
  have y : v.cell? ⟨ga, 1, none⟩ = some (.int .i64 x.n) := hSw.cell 1
  go_simp
  with_reducible rfl
 refine rd 3 (h := fun K hK => ?_)
 rw [if_pos (by rfl)]
 refine wp_load_mid 39 (.tmp 30) rfl gx 2 rfl (rsV a c g R) _ (M2.out.still KX.out).rs Tryz.underlying39 rfl (infoRs _ _ _ _) ?_
 refine hK.out _ _ ((A2.out.kp KX.out (fun e => e))) (fun hHeld42 => ?_)
 clear hK K
 try simp only [Act.put, sIa, sI0, sI1]
 refine rd 6 (h := fun K hK => ?_)
 go_simp
 have hcall := rpage_no (M2.out.rv.still KX.out) x.n (by rw [RL.out.len]; exact HX.out)
 rw [show (⟨#[]⟩ : ByteArray) = ⟨ll.toArray⟩ by rw [<- HLL.out]] at hcall
 refine hcall.mono ?_
 clear hcall
 rintro e w5 ⟨rfl, hk5⟩
 have K5 := hHd (KX.out.trans hk5)
 obtain ⟨F3, hF3⟩ : ∃ Fj, Thr F2 w2.heap.size w5.heap.size = Fj := ⟨_, rfl⟩
 have M3 := hHd (M2.out.thr K5.out)
 have S3 := hHd (S2.out.thr K5.out)
 rw [hF3] at M3 S3
 have SUB3 := hHd (show ∀ k, F3 k -> F k from fun k e => by rw [<- hF3] at e; exact SUB2.out k e.1)
 have OUT3 := hHd (show ∀ k, w2.heap.size <= k -> k < w5.heap.size -> ¬ F3 k from fun k h1 h2 e => by rw [<- hF3] at e; exact Thr.out h1 h2 e)
 have LE3 := hHd (show ∀ k, F3 k -> F2 k from fun k e => by rw [<- hF3] at e; exact e.1)
 clear hF3
 have RD5 := hHd (RD2.out.kp K5.out (fun _ _ e => e))
 have A5 := hHd (A2.out.kp K5.out (fun e => e))
 clear hk5
 go_wp2_with fail
 refine hK.out _ _ (A5.out) (fun hHeld43 => ?_)
 clear hK K
 try simp only [Act.put, sIa, sI0, sI1]
 refine tk 7 (h := ?_)
 refine tk 8 (h := ?_)
 refine tk 9 (h := ?_)
 refine tk 10 (h := ?_)
 refine tk 11 (h := ?_)
 refine wpAnyH_done (by kernel_rfl) ?_ _
 clear hHeld
 have ht := RD5.out.text (P := Tryz.prog) 50 9 5 cb Tryz.underlying50 Tryz.underlying5 Tryz.underlying9
 go_wp2_with fail
 go_ret
 exact ⟨K2.out.trans K5.out.of_false, F3, SUB3.out, .inl ⟨rfl, gs, gl, g1, g2, a, c, g, s, d, R, C, ⟨M3.out, S3.out, ST.out.mono (by omega), RL.out, NT.out⟩, .inl rfl, fun h => h⟩⟩
theorem does8_yes (J : Jx B F w gx gs gl b g1 g2 a c g L N s d R C) (hN : N + 2000 < 18446744073709551616) (x : Aw) (ok : x.Ok) (hd : ¬ (x.d = 0 \/ x.d = 1 \/ x.d = 2 \/ x.d = 3 \/ x.d = 4 \/ x.d = 5 \/ x.d = 6 \/ x.d = 7)) (i : Nat) (hx : x.n = (i : Int)) (hi : i < 128) :
  Calls Tryz.prog 9 #[.pointer (some ⟨gx, 0, none⟩), .agg x.cells] w fun e w' => Kp (fun k => F k \/ k = gx) w w' /\ DidOk B F w' gx b L N d R C false e := by
 have HNN := hHd hN
 have ST := hHd J.st
 have RL := hHd J.rel
 have NT := hHd J.note
 have OKX := hHd ok
 obtain ⟨W, hW, ba, kW⟩ : ∃ W, W = w.alloc (.cells x.cells 30) /\ Box W w.heap.size 30 x.cells /\ Kp (fun _ => False) w W := ⟨_, rfl, Box.new w _ _, (Kp.refl _ w).alloc _⟩
 have HW := hHd hW
 have M9 := hHd J.m
 have S9 := hHd J.sto
 have SUB9 := hHd (show ∀ k, F k -> F k from fun k e => e)
 have hgl := ba.lt
 obtain ⟨F0, hF0⟩ : ∃ Fj, Thr F w.heap.size W.heap.size = Fj := ⟨_, rfl⟩
 have M0 := hHd (M9.out.thr kW)
 have S0 := hHd (S9.out.thr kW)
 rw [hF0] at M0 S0
 have SUB0 := hHd (show ∀ k, F0 k -> F k from fun k e => by rw [<- hF0] at e; exact SUB9.out k e.1)
 have OUT0 := hHd (show ∀ k, w.heap.size <= k -> k < W.heap.size -> ¬ F0 k from fun k h1 h2 e => by rw [<- hF0] at e; exact Thr.out h1 h2 e)
 have LE0 := hHd (show ∀ k, F0 k -> F k from fun k e => by rw [<- hF0] at e; exact e.1)
 clear hF0
 obtain ⟨ga, hga⟩ : ∃ ga, w.heap.size = ga := ⟨_, rfl⟩
 have NA0 := hHd (show ¬ F0 ga from OUT0.out ga (by omega) (by omega))
 rw [hga] at ba
 have A0 := hHd ba
 have K0 := hHd (kW.of_false (S := fun k => F k \/ k = gx))
 have HGA := hHd hga
 have HI := hHd hi
 have HX := hHd hx
 clear J hN ok hW ba kW M9 S9 SUB9 hgl hga
 go_enter Tryz.func9, Tryz.ntmps9
 go_upto_region 1 with fail
 rw [<- HW.out]
 try rw [HGA.out]
 obtain ⟨z, hz⟩ : ∃ z, x.d = z := ⟨_, rfl⟩
 rw [hz] at hd
 have y0 := A0.out.cell 0
 rw [show x.cells[0]? = some (Value.int .u8 x.d) from rfl, hz] at y0
 have q0 : (z == 0) = false := by simp; omega
 have q1 : (z == 1) = false := by simp; omega
 have q2 : (z == 2) = false := by simp; omega
 have q3 : (z == 3) = false := by simp; omega
 have q4 : (z == 4) = false := by simp; omega
 have q5 : (z == 5) = false := by simp; omega
 have q6 : (z == 6) = false := by simp; omega
 have q7 : (z == 7) = false := by simp; omega
 clear hd hz
 clear hx hi
 go_upto_region 3 with fail
 clear y0 q0 q1 q2 q3 q4 q5 q6 q7
 have KX := hHd ((Kp.refl (fun _ => False) W).drew)
 refine wp_region_held_drew (S := fun v => v.cell? ⟨gx, 1, none⟩ = some (.pointer (some ⟨gs, 0, none⟩)) /\ Box v ga 30 x.cells) (by kernel_rfl) (⟨M0.out.cells.2.1, A0.out⟩) (fun hHeld => ?_)
 refine tk 0 (h := ?_)
 refine tk 1 (h := ?_)
 refine tk 2 (h := ?_)
 refine tk 3 (v := ?_) (hy := ?_) (h := ?_)
 rotate_left
 ·intro v hSw
  have y := hSw.1
  go_simp
  with_reducible rfl
 refine tk 4 (h := ?_)
 refine tk 5 (v := ?_) (hy := ?_) (h := ?_)
 rotate_left
 ·intro v hSw
  have y : v.cell? ⟨ga, 1, none⟩ = some (.int .i64 x.n) := hSw.2.cell 1
  go_simp
  with_reducible rfl
 refine rd 6 (h := fun K hK => ?_)
 go_simp
 have hput := ppages_read (S0.out.still KX.out) (by have := (ST.out.lok (by have := HNN.out; omega)).h_.hi; omega) x.n
 rw [show s.pageS d x.n = (s, nowC C s.chg i, 0) by rw [HX.out]; exact pageS_yes ST.out i HI.out] at hput
 obtain ⟨ll, hll⟩ : ∃ ll, nowC C s.chg i = ll := ⟨_, rfl⟩
 have HLL := hHd hll
 rw [hll] at hput
 clear hll
 refine hput.mono ?_
 clear hput
 rintro e w2 ⟨Ab, cb, rfl, hrd, hs2, hk2⟩
 have M2 := hHd (M0.out.kp (KX.out.of_false.trans hk2))
 have S2 := hHd hs2
 have A2 := hHd ((A0.out.kp KX.out (fun e => e)).kp hk2 NA0.out)
 have K2 := hHd ((K0.out.trans KX.out.of_false).trans (hk2.mono fun k _ e => .inl (SUB0.out k e)))
 have CX2 := hHd M2.out.cells.2.1
 have SUB2 := hHd SUB0.out
 have RD2 := hHd hrd
 clear hrd
 clear hs2 hk2
 go_wp2_with fail
 refine hK.out _ _ (⟨CX2.out, A2.out⟩) (fun hHeld44 => ?_)
 clear hK K
 try simp only [Act.put, sIa, sI0, sI1]
 refine tk 7 (h := ?_)
 refine tk 8 (h := ?_)
 refine tk 9 (h := ?_)
 refine tk 10 (h := ?_)
 refine tk 11 (h := ?_)
 refine wpAnyH_done (by kernel_rfl) ?_ _
 clear hHeld
 obtain ⟨F2, hF2⟩ : ∃ F2, F0 = F2 := ⟨_, rfl⟩
 rw [hF2] at M2 S2 SUB2
 clear hF2 KX CX2
 go_upto_region 4 with fail
 have KX := hHd ((Kp.refl (fun _ => False) w2).drew)
 refine wp_region_held_drew (S := fun v => Box v ga 30 x.cells) (by kernel_rfl) ((A2.out.kp KX.out (fun e => e))) (fun hHeld => ?_)
 refine tk 0 (h := ?_)
 refine tk 1 (h := ?_)
 refine tk 2 (h := ?_)
 refine tk 4 (h := ?_)
 refine tk 5 (v := ?_) (hy := ?_) (h := ?_)
 rotate_left
 ·intro v hSw
  have y : v.cell? ⟨ga, 1, none⟩ = some (.int .i64 x.n) := hSw.cell 1
  go_simp
  with_reducible rfl
 refine rd 3 (h := fun K hK => ?_)
 rw [if_pos (by rfl)]
 refine wp_load_mid 39 (.tmp 30) rfl gx 2 rfl (rsV a c g R) _ (M2.out.still KX.out).rs Tryz.underlying39 rfl (infoRs _ _ _ _) ?_
 refine hK.out _ _ ((A2.out.kp KX.out (fun e => e))) (fun hHeld45 => ?_)
 clear hK K
 try simp only [Act.put, sIa, sI0, sI1]
 refine rd 6 (h := fun K hK => ?_)
 go_simp
 have hcall := rpage_yes (M2.out.rv.still KX.out) i (by rw [RL.out.len]; exact HI.out)
 rw [<- HX.out, RL.out.at HI.out, HLL.out] at hcall
 refine hcall.mono ?_
 clear hcall
 rintro e w5 ⟨rfl, hk5⟩
 have K5 := hHd (KX.out.trans hk5)
 obtain ⟨F3, hF3⟩ : ∃ Fj, Thr F2 w2.heap.size w5.heap.size = Fj := ⟨_, rfl⟩
 have M3 := hHd (M2.out.thr K5.out)
 have S3 := hHd (S2.out.thr K5.out)
 rw [hF3] at M3 S3
 have SUB3 := hHd (show ∀ k, F3 k -> F k from fun k e => by rw [<- hF3] at e; exact SUB2.out k e.1)
 have OUT3 := hHd (show ∀ k, w2.heap.size <= k -> k < w5.heap.size -> ¬ F3 k from fun k h1 h2 e => by rw [<- hF3] at e; exact Thr.out h1 h2 e)
 have LE3 := hHd (show ∀ k, F3 k -> F2 k from fun k e => by rw [<- hF3] at e; exact e.1)
 clear hF3
 have RD5 := hHd (RD2.out.kp K5.out (fun _ _ e => e))
 have A5 := hHd (A2.out.kp K5.out (fun e => e))
 clear hk5
 go_wp2_with fail
 refine hK.out _ _ (A5.out) (fun hHeld46 => ?_)
 clear hK K
 try simp only [Act.put, sIa, sI0, sI1]
 refine tk 7 (h := ?_)
 refine tk 8 (h := ?_)
 refine tk 9 (h := ?_)
 refine tk 10 (h := ?_)
 refine tk 11 (h := ?_)
 refine wpAnyH_done (by kernel_rfl) ?_ _
 clear hHeld
 have ht := RD5.out.text (P := Tryz.prog) 50 9 5 cb Tryz.underlying50 Tryz.underlying5 Tryz.underlying9
 go_wp2_with fail
 go_ret
 exact ⟨K2.out.trans K5.out.of_false, F3, SUB3.out, .inl ⟨rfl, gs, gl, g1, g2, a, c, g, s, d, R, C, ⟨M3.out, S3.out, ST.out.mono (by omega), RL.out, NT.out⟩, .inl rfl, fun h => h⟩⟩
end
end Go.Proofs.YtepaeliamhjgiaaGreatDoor
