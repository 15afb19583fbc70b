/- The law of pages, part 43 of 55: PgD4. -/
import Derived.Test.YtepaeliamhjgiaaGreatDoorMu1
import Derived.Test.YtepaeliamhjgiaaGreatDoorMu42
set_option maxHeartbeats 16000000
set_option maxRecDepth 100000
namespace Go.Proofs.YtepaeliamhjgiaaGreatDoor
open Go.RowKit Go.Maps Go.Shelf
section
variable {B : Nat} {F : Nat -> Prop} {w : World} {gx gs gl b g1 g2 a c g L N : Nat} {s : Sm} {d : Dm} {R : Rs} {C : Nat -> List UInt8}
theorem does6 (J : Jx B F w gx gs gl b g1 g2 a c g L N s d R C) (hN : N + 2000 < 18446744073709551616) (x : Aw) (ok : x.Ok) (hd : x.d = 6 \/ x.d = 7) :
  Calls Tryz.prog 9 #[.pointer (some ⟨gx, 0, none⟩), .agg x.cells] w fun e w' => Kp (fun k => F k \/ k = gx) w w' /\ DidOk B F w' gx b L N d R C false e := by
 have HNN := hHd hN
 have ST := hHd J.st
 have RL := hHd J.rel
 have NT := hHd J.note
 have OKX := hHd ok
 obtain ⟨W, hW, ba, kW⟩ : ∃ W, W = w.alloc (.cells x.cells 30) /\ Box W w.heap.size 30 x.cells /\ Kp (fun _ => False) w W := ⟨_, rfl, Box.new w _ _, (Kp.refl _ w).alloc _⟩
 have HW := hHd hW
 have M9 := hHd J.m
 have S9 := hHd J.sto
 have SUB9 := hHd (show ∀ k, F k -> F k from fun k e => e)
 have hgl := ba.lt
 obtain ⟨F0, hF0⟩ : ∃ Fj, Thr F w.heap.size W.heap.size = Fj := ⟨_, rfl⟩
 have M0 := hHd (M9.out.thr kW)
 have S0 := hHd (S9.out.thr kW)
 rw [hF0] at M0 S0
 have SUB0 := hHd (show ∀ k, F0 k -> F k from fun k e => by rw [<- hF0] at e; exact SUB9.out k e.1)
 have OUT0 := hHd (show ∀ k, w.heap.size <= k -> k < W.heap.size -> ¬ F0 k from fun k h1 h2 e => by rw [<- hF0] at e; exact Thr.out h1 h2 e)
 have LE0 := hHd (show ∀ k, F0 k -> F k from fun k e => by rw [<- hF0] at e; exact e.1)
 clear hF0
 obtain ⟨ga, hga⟩ : ∃ ga, w.heap.size = ga := ⟨_, rfl⟩
 have NA0 := hHd (show ¬ F0 ga from OUT0.out ga (by omega) (by omega))
 rw [hga] at ba
 have A0 := hHd ba
 have K0 := hHd (kW.of_false (S := fun k => F k \/ k = gx))
 have HGA := hHd hga
 clear J hN ok hW ba kW M9 S9 SUB9 hgl hga
 go_enter Tryz.func9, Tryz.ntmps9
 go_upto_region 1 with fail
 rw [<- HW.out]
 try rw [HGA.out]
 rcases hd with hd | hd
 all_goals
  have y0 := A0.out.cell 0
  rw [show x.cells[0]? = some (Value.int .u8 x.d) from rfl, hd] at y0
  clear hd
  go_wp2_with fail
  go_ret
  exact ⟨K0.out, F0, SUB0.out, .inl ⟨rfl, gs, gl, g1, g2, a, c, g, s, d, R, C, ⟨M0.out, S0.out, ST.out.mono (by omega), RL.out, NT.out⟩, .inl rfl, fun h => h⟩⟩
theorem does4 (J : Jx B F w gx gs gl b g1 g2 a c g L N s d R C) (hN : N + 2000 < 18446744073709551616) (x : Aw) (ok : x.Ok) (hd : x.d = 4) :
  Calls Tryz.prog 9 #[.pointer (some ⟨gx, 0, none⟩), .agg x.cells] w fun e w' => Kp (fun k => F k \/ k = gx) w w' /\ DidOk B F w' gx b L N d R C false e := by
 have HNN := hHd hN
 have ST := hHd J.st
 have RL := hHd J.rel
 have NT := hHd J.note
 have OKX := hHd ok
 obtain ⟨W, hW, ba, kW⟩ : ∃ W, W = w.alloc (.cells x.cells 30) /\ Box W w.heap.size 30 x.cells /\ Kp (fun _ => False) w W := ⟨_, rfl, Box.new w _ _, (Kp.refl _ w).alloc _⟩
 have HW := hHd hW
 have M9 := hHd J.m
 have S9 := hHd J.sto
 have SUB9 := hHd (show ∀ k, F k -> F k from fun k e => e)
 have hgl := ba.lt
 obtain ⟨F0, hF0⟩ : ∃ Fj, Thr F w.heap.size W.heap.size = Fj := ⟨_, rfl⟩
 have M0 := hHd (M9.out.thr kW)
 have S0 := hHd (S9.out.thr kW)
 rw [hF0] at M0 S0
 have SUB0 := hHd (show ∀ k, F0 k -> F k from fun k e => by rw [<- hF0] at e; exact SUB9.out k e.1)
 have OUT0 := hHd (show ∀ k, w.heap.size <= k -> k < W.heap.size -> ¬ F0 k from fun k h1 h2 e => by rw [<- hF0] at e; exact Thr.out h1 h2 e)
 have LE0 := hHd (show ∀ k, F0 k -> F k from fun k e => by rw [<- hF0] at e; exact e.1)
 clear hF0
 obtain ⟨ga, hga⟩ : ∃ ga, w.heap.size = ga := ⟨_, rfl⟩
 have NA0 := hHd (show ¬ F0 ga from OUT0.out ga (by omega) (by omega))
 rw [hga] at ba
 have A0 := hHd ba
 have K0 := hHd (kW.of_false (S := fun k => F k \/ k = gx))
 have HGA := hHd hga
 clear J hN ok hW ba kW M9 S9 SUB9 hgl hga
 go_enter Tryz.func9, Tryz.ntmps9
 go_upto_region 1 with fail
 rw [<- HW.out]
 try rw [HGA.out]
 have y0 : W.cell? ⟨ga, 0, none⟩ = some (.int .u8 4) := by
  have := A0.out.cell 0
  rw [this]
  show some (Value.int .u8 x.d) = _
  rw [hd]
 clear hd
 have y := M0.out.cells.2.1
 go_wp2_with fail
 refine (pabort_sto S0.out M0.out.new).mono ?_
 rintro e w1 ⟨rfl, g3, _, hs1, hk1⟩
 have M1 := hHd (M0.out.kp (hk1.mono fun k _ e => by rw [show k = gs from e]; exact S0.out.fs))
 have S1 := hHd hs1
 have SUB1 := hHd SUB0.out
 have K1 := hHd (K0.out.trans (hk1.mono fun k _ e => .inl (by rw [show k = gs from e]; exact SUB0.out _ S0.out.fs)))
 obtain ⟨F1, hF1⟩ : ∃ F1, F0 = F1 := ⟨_, rfl⟩
 rw [hF1] at M1 S1 SUB1
 clear hs1 hk1 y y0 hF1
 go_wp2_with (first | (refine wpList_load_mid rfl 39 (.tmp 177) rfl gx 2 rfl (rsV a c g R) _ M1.out.rs Tryz.underlying39 rfl (infoRs _ _ _ _) ?_) | fail)
 refine (rabort_any M1.out.rv).mono ?_
 rintro e w2 ⟨g', rfl, hr, hg', hk2⟩
 obtain ⟨F2, hF2⟩ : ∃ Fj, Thr F1 w1.heap.size w2.heap.size = Fj := ⟨_, rfl⟩
 have M2 := hHd (M1.out.thr hk2)
 have S2 := hHd (S1.out.thr hk2)
 rw [hF2] at M2 S2
 have SUB2 := hHd (show ∀ k, F2 k -> F k from fun k e => by rw [<- hF2] at e; exact SUB1.out k e.1)
 have OUT2 := hHd (show ∀ k, w1.heap.size <= k -> k < w2.heap.size -> ¬ F2 k from fun k h1 h2 e => by rw [<- hF2] at e; exact Thr.out h1 h2 e)
 have LE2 := hHd (show ∀ k, F2 k -> F1 k from fun k e => by rw [<- hF2] at e; exact e.1)
 clear hF2
 have R2 := hHd hr
 have NG := hHd (OUT2.out g' hg' hr.lt.2)
 have K2 := hHd (K1.out.trans hk2.of_false)
 clear hr hg' hk2
 go_wp2_with (first | (refine wpList_store_part rfl 39 (.tmp 181) (.tmp 179) rfl gx [.pointer (some ⟨b, 0, none⟩), .pointer (some ⟨gs, 0, none⟩)] (rsV a c g R) (rsV a c g' ⟨R.pg, bnone⟩) [.int .i64 (L : Int)] rfl rfl M2.out.x rfl (infoRs _ _ _ _) (rsV_one _ _ _ _) ?_; intro w6 hb6 hk6) | fail)
 have M6 := hHd (M2.out.told R2.out M2.out.fa NG.out hb6 hk6)
 have S6 := hHd (S2.out.off M2.out.fx hk6)
 have K6 := hHd (K2.out.trans (hk6.mono fun k _ e => .inr e))
 clear hb6 hk6
 go_ret
 exact ⟨K6.out, F2, SUB2.out, .inl ⟨rfl, gs, gl, g1, g3, a, c, g', s.abortS, d, _, C, ⟨M6.out, S6.out, ST.out.abort.mono (by omega), RL.out.abort (by decide), NT.out⟩, .inl rfl, fun h => h⟩⟩
end
end Go.Proofs.YtepaeliamhjgiaaGreatDoor
