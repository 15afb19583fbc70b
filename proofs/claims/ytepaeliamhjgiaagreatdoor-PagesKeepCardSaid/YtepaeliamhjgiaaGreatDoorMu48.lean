/- The law of pages, part 48 of 55: PgD5 PgSame PgBegin. -/
import Derived.Test.YtepaeliamhjgiaaGreatDoorMu1
import Derived.Test.YtepaeliamhjgiaaGreatDoorMu47
import Derived.Test.YtepaeliamhjgiaaGreatDoorMu46
import Derived.Test.YtepaeliamhjgiaaGreatDoorMu45
import Derived.Test.YtepaeliamhjgiaaGreatDoorMu4
set_option maxHeartbeats 16000000
set_option maxRecDepth 100000
namespace Go.Proofs.YtepaeliamhjgiaaGreatDoor
open Go.RowKit Go.Maps Go.Shelf
section
variable {B : Nat} {F : Nat -> Prop} {w : World} {gx gs gl b g1 g2 a c g L N : Nat} {s : Sm} {d : Dm} {R : Rs} {C : Nat -> List UInt8}
theorem does5 (J : Jx B F w gx gs gl b g1 g2 a c g L N s d R C) (hN : N + 2000 < 18446744073709551616) (x : Aw) (ok : x.Ok) (hd : x.d = 5) :
  Calls Tryz.prog 9 #[.pointer (some ⟨gx, 0, none⟩), .agg x.cells] w fun e w' => Kp (fun k => F k \/ k = gx) w w' /\ DidOk B F w' gx b L N d R C false e := by
 have HNN := hHd hN
 have ST := hHd J.st
 have RL := hHd J.rel
 have NT := hHd J.note
 have OKX := hHd ok
 obtain ⟨W, hW, ba, kW⟩ : ∃ W, W = w.alloc (.cells x.cells 30) /\ Box W w.heap.size 30 x.cells /\ Kp (fun _ => False) w W := ⟨_, rfl, Box.new w _ _, (Kp.refl _ w).alloc _⟩
 have HW := hHd hW
 have M9 := hHd J.m
 have S9 := hHd J.sto
 have SUB9 := hHd (show ∀ k, F k -> F k from fun k e => e)
 have hgl := ba.lt
 obtain ⟨F0, hF0⟩ : ∃ Fj, Thr F w.heap.size W.heap.size = Fj := ⟨_, rfl⟩
 have M0 := hHd (M9.out.thr kW)
 have S0 := hHd (S9.out.thr kW)
 rw [hF0] at M0 S0
 have SUB0 := hHd (show ∀ k, F0 k -> F k from fun k e => by rw [<- hF0] at e; exact SUB9.out k e.1)
 have OUT0 := hHd (show ∀ k, w.heap.size <= k -> k < W.heap.size -> ¬ F0 k from fun k h1 h2 e => by rw [<- hF0] at e; exact Thr.out h1 h2 e)
 have LE0 := hHd (show ∀ k, F0 k -> F k from fun k e => by rw [<- hF0] at e; exact e.1)
 clear hF0
 obtain ⟨ga, hga⟩ : ∃ ga, w.heap.size = ga := ⟨_, rfl⟩
 have NA0 := hHd (show ¬ F0 ga from OUT0.out ga (by omega) (by omega))
 rw [hga] at ba
 have A0 := hHd ba
 have K0 := hHd (kW.of_false (S := fun k => F k \/ k = gx))
 have HGA := hHd hga
 clear J hN ok hW ba kW M9 S9 SUB9 hgl hga
 go_enter Tryz.func9, Tryz.ntmps9
 go_upto_region 1 with fail
 rw [<- HW.out]
 try rw [HGA.out]
 have y0 : W.cell? ⟨ga, 0, none⟩ = some (.int .u8 5) := by
  have := A0.out.cell 0
  rw [this]
  show some (Value.int .u8 x.d) = _
  rw [hd]
 clear hd
 go_wp2_with (first | (refine wpList_load_mid rfl 30 (.tmp 3) rfl ga 0 rfl x.cells.toList _ (Box.range' (L := x.cells.toList) A0.out) Tryz.underlying30 rfl (by kernel_rfl) ?_) | fail)
 refine (many_any ⟨M0.out, S0.out, ST.out, RL.out, NT.out⟩ HNN.out x OKX.out).mono ?_
 rintro e w1 ⟨hk1, F', hsub, hdid⟩
 have K1 := hHd (K0.out.trans (hk1.mono fun k _ e => e.elim (fun e => .inl (SUB0.out k e)) .inr))
 have HS := hHd hsub
 rcases hdid with ⟨rfl, hdid⟩ | ⟨⟨r, rfl⟩, hdid⟩
 ·have HD := hHd hdid
  clear hdid hk1 hsub y0
  go_wp2_with fail
  go_ret
  exact ⟨K1.out, F', fun k e => SUB0.out k (HS.out k e), .inl ⟨rfl, HD.out⟩⟩
 ·have HD := hHd hdid
  clear hdid hk1 hsub y0
  go_wp2_with fail
  go_ret
  exact ⟨K1.out, F', fun k e => SUB0.out k (HS.out k e), .inr ⟨⟨_, rfl⟩, HD.out⟩⟩
theorem DidOk.weak {e : Ending} {w' : World} {x3 : Bool} (h : DidOk B F w' gx b L N d R C false e) : DidOk B F w' gx b L N d R C x3 e := by
 obtain ⟨F', h1, h2⟩ := h
 refine ⟨F', h1, ?_⟩
 rcases h2 with ⟨e1, gs', gl', q1, q2, a', c', g', s', d', R', C', j, hc, hl⟩ | ⟨e1, hl, d', z, hr⟩
 ·exact .inl ⟨e1, gs', gl', q1, q2, a', c', g', s', d', R', C', j, .inl (hc.resolve_right fun h => by cases h.1), hl⟩
 ·exact .inr ⟨e1, hl, d', z, .inl (hr.resolve_right fun h => by cases h.1)⟩
theorem does_any (J : Jx B F w gx gs gl b g1 g2 a c g L N s d R C) (hN : N + 2000 < 18446744073709551616) (x : Aw) (ok : x.Ok) (tb : Tbl w) (tbb : Bt.Tbl w) (hB1 : 1 < B) (hB2 : 0 < B) (hgx : B <= gx) :
  Calls Tryz.prog 9 #[.pointer (some ⟨gx, 0, none⟩), .agg x.cells] w fun e w' => Kp (fun k => F k \/ k = gx) w w' /\ DidOk B F w' gx b L N d R C (decide (x.d = 3)) e := by
 have up : ∀ {P : Ending -> World -> Prop}, Calls Tryz.prog 9 #[.pointer (some ⟨gx, 0, none⟩), .agg x.cells] w (fun e w' => Kp (fun k => F k \/ k = gx) w w' /\ DidOk B F w' gx b L N d R C false e) -> Calls Tryz.prog 9 #[.pointer (some ⟨gx, 0, none⟩), .agg x.cells] w fun e w' => Kp (fun k => F k \/ k = gx) w w' /\ DidOk B F w' gx b L N d R C (decide (x.d = 3)) e :=
  fun h => h.mono fun e w' ⟨h1, h2⟩ => ⟨h1, h2.weak⟩
 by_cases d3 : x.d = 3
 ·rw [decide_eq_true d3]
  exact does3 J hN x ok d3 tb hB1 hgx
 refine up (P := fun _ _ => True) ?_
 by_cases d0 : x.d = 0
 ·by_cases hn : x.n < 1 \/ (128 : Int) <= x.n
  ·exact does0_no J hN x ok d0 hn
  ·exact does0_yes J hN x ok d0 x.n.toNat (by omega) (by omega) (by omega)
 by_cases d1 : x.d = 1
 ·obtain ⟨k, hl⟩ := Bt.least_is s.cused 128
  by_cases hk : k < 128
  ·exact does1_yes J hN x ok d1 tbb hB2 hgx k hl hk
  ·exact does1_no J hN x ok d1 tbb hB2 hgx k hl hk
 by_cases d2 : x.d = 2
 ·by_cases hn : x.n < 1 \/ (128 : Int) <= x.n \/ (0 <= x.n /\ s.cused x.n.toNat = false)
  ·exact does2_no J hN x ok d2 hn
  ·refine does2_yes J hN x ok d2 x.n.toNat (by omega) (by omega) (by omega) ?_
   cases hb : s.cused x.n.toNat with
   |true => rfl
   |false => exact absurd (.inr (.inr ⟨by omega, hb⟩)) hn
 by_cases d4 : x.d = 4
 ·exact does4 J hN x ok d4
 by_cases d5 : x.d = 5
 ·exact does5 J hN x ok d5
 by_cases d6 : x.d = 6 \/ x.d = 7
 ·exact does6 J hN x ok d6
 ·have hd : ¬ (x.d = 0 \/ x.d = 1 \/ x.d = 2 \/ x.d = 3 \/ x.d = 4 \/ x.d = 5 \/ x.d = 6 \/ x.d = 7) := by omega
  by_cases hn : x.n < 0 \/ (128 : Int) <= x.n
  ·exact does8_no J hN x ok hd hn
  ·exact does8_yes J hN x ok hd x.n.toNat (by omega) (by omega)
end
theorem cnt_succ (f : Nat -> Bool) (k : Nat) : Bt.cntF f (k + 1) = Bt.cntF f k + (if f k then 1 else 0) := by
 unfold Bt.cntF
 rw [List.range_succ, List.map_append, List.count_append]
 cases h : f k <;> simp [h]
theorem cnt_le (f : Nat -> Bool) : ∀ k, Bt.cntF f k <= k
 |0 => Nat.le_refl _
 |k + 1 => by
  have := cnt_le f k
  rw [cnt_succ]
  split <;> omega
theorem cell2 {B : Nat} {F : Nat -> Prop} {w : World} {gx gs b a c g L : Nat} {R : Rs} (hl : R.pg.length = 128) (h : Mx B F w gx gs b a c g L R) : w.cell? ⟨gx, 2, none⟩ = some (.slice (some ⟨a, 0, none⟩) 128 c) := by
 rw [<- hl]
 exact h.cells.2.2.1
section
variable {B : Nat} {F : Nat -> Prop} {w : World} {gx gs gl b g1 g2 a c g L N : Nat} {s : Sm} {d : Dm} {R : Rs} {C : Nat -> List UInt8}
theorem same_any (m : Mx B F w gx gs b a c g L R) (sto : Sto F w gs gl b g1 g2 s d) (st : St d s L 128 hnB C N) (hlen : R.pg.length = 128) (hk : (R.chg.keys 128).length = (s.chg.keys 128).length) (h0 : nowC C s.chg 0 = Bt.pageL s.cused) (hwf : Bt.Wf s.cused 128) (hN : N < 18446744073709551616) :
  Calls Tryz.prog 10 #[.pointer (some ⟨gx, 0, none⟩)] w fun e w' => ∃ r, e = .returned (.bool r) /\ (r = true ↔ ∀ i, i < 128 -> R.at_ i = nowC C s.chg i) /\ Kp F w w' /\ Sto F w' gs gl b g1 g2 s d := by
 have M0 := hHd m
 have S0 := hHd sto
 have ST := hHd st
 have HLEN := hHd hlen
 have H0 := hHd h0
 have HWF := hHd hwf
 have HLL := hHd (show s.l.h.n <= 100000 by have := (st.lok hN).h_.hi; omega)
 obtain ⟨kn, hkn⟩ : ∃ kn, (s.chg.keys 128).length = kn := ⟨_, rfl⟩
 have HKN := hHd hkn
 have HKR := hHd (hk.trans hkn)
 clear m sto st hlen h0 hwf hk hkn hN
 go_enter Tryz.func10, Tryz.ntmps10
 go_wp2_with fail
 go_loopw [3, 4] (fun s3 s4 wr => ∃ k : Nat, k <= 128 /\ s4 = .int .i64 k /\ s3 = .int .i64 ((Bt.cntF s.cused k : Nat) : Int) /\ (∀ i, i < k -> R.at_ i = nowC C s.chg i) /\ Sto F wr gs gl b g1 g2 s d /\ Kp F w wr) (fun _ s4 _ => 128 - (Go.RowKit.intOf s4).toNat)
 case atStart => exact ⟨0, Nat.zero_le _, rfl, rfl, fun i hi => by omega, S0.out, Kp.refl _ w⟩
 case round =>
  obtain ⟨k, hk, rfl, rfl, heq, hs1, hk1⟩ := hrel
  have S1 := hHd hs1
  have K1 := hHd hk1
  have M1 := hHd (M0.out.kp hk1)
  have HEQ := hHd heq
  have y2 := cell2 HLEN.out M1.out
  obtain ⟨cn, hcn⟩ : ∃ cn, Bt.cntF s.cused k = cn := ⟨_, rfl⟩
  have hcl : cn <= 128 := by rw [<- hcn]; exact Nat.le_trans (cnt_le _ _) hk
  rw [hcn]
  have HCN := hHd hcn
  clear heq hs1 hk1 hcn
  by_cases hlt : k < 128
  ·have y1 := M1.out.cells.2.1
   have HKL := hHd hlt
   go_wp2_with fail
   have hp := ppages_read S1.out HLL.out (k : Int)
   rw [pageS_yes ST.out k HKL.out] at hp
   obtain ⟨ll, hll⟩ : ∃ ll, nowC C s.chg k = ll := ⟨_, rfl⟩
   rw [hll] at hp
   have HNOW := hHd hll
   refine hp.mono ?_
   clear hp hll y1 y2
   rintro e w2 ⟨A2, c2, rfl, hrd, hs2, hk2⟩
   have S2 := hHd hs2
   have M2 := hHd (M1.out.kp hk2)
   have K2 := hHd (K1.out.trans hk2)
   have RD2 := hHd hrd
   clear hs2 hk2 hrd
   go_wp2_with (first | (refine wpList_load_mid rfl 39 (.tmp 35) rfl gx 2 rfl (rsV a c g R) _ M2.out.rs Tryz.underlying39 rfl (infoRs _ _ _ _) ?_) | fail)
   have hr := rpage_yes M2.out.rv k (by rw [HLEN.out]; exact HKL.out)
   obtain ⟨rr, hrr⟩ : ∃ rr, R.at_ k = rr := ⟨_, rfl⟩
   rw [hrr] at hr
   have HAT := hHd hrr
   refine hr.mono ?_
   clear hr hrr
   rintro e w3 ⟨rfl, hk3⟩
   have S3 := hHd (S2.out.still hk3)
   have M3 := hHd (M2.out.still hk3)
   have K3 := hHd (K2.out.trans hk3.of_false)
   have RD3 := hHd (RD2.out.kp hk3 (fun _ _ e => e))
   clear hk3
   have ht := RD3.out.text (P := Tryz.prog) 50 9 5 c2 Tryz.underlying50 Tryz.underlying5 Tryz.underlying9
   by_cases hx : ll = rr
   ·subst hx
    have HE2 := hHd (show ∀ i, i < k + 1 -> R.at_ i = nowC C s.chg i from fun i hi => by
     rcases Nat.lt_or_ge i k with h | h
     ·exact HEQ.out i h
     ·have : i = k := by omega
      rw [this, HAT.out, HNOW.out])
    have y2 := cell2 HLEN.out M3.out
    go_wp2_with (first | (refine wpList_load_mid rfl 39 (.tmp 52) rfl gx 2 rfl (rsV a c g R) _ M3.out.rs Tryz.underlying39 rfl (infoRs _ _ _ _) ?_) | fail)
    have hh := rhas_any M3.out.rv k (by rw [HLEN.out]; exact HKL.out)
    rw [HE2.out 0 (by omega), H0.out, pbit_page _ 128 HWF.out] at hh
    refine hh.mono ?_
    clear hh ht y2
    rintro e w4 ⟨rfl, hk4⟩
    have S4 := hHd (S3.out.still hk4)
    have K4 := hHd (K3.out.trans hk4.of_false)
    clear hk4
    have hcs := cnt_succ s.cused k
    rcases hb : s.cused k with _ | _
    ·rw [hb, HCN.out] at hcs
     have HCS := hHd hcs
     clear hcs hb
     go_wp2_with fail
     go_roundw
     case rel => exact ⟨k + 1, by omega, by go_num, by rw [HCS.out]; rfl, HE2.out, S4.out, K4.out⟩
     case measure => simp [Go.RowKit.intOf]; omega
    ·rw [hb, HCN.out] at hcs
     have HCS := hHd hcs
     clear hcs hb
     go_wp2_with fail
     go_roundw
     case rel => exact ⟨k + 1, by omega, by go_num, by rw [HCS.out]; go_num, HE2.out, S4.out, K4.out⟩
     case measure => simp [Go.RowKit.intOf]; omega
   ·obtain ⟨sa, hsa⟩ : ∃ sa : ByteArray, (⟨ll.toArray⟩ : ByteArray) = sa := ⟨_, rfl⟩
    obtain ⟨sb, hsb⟩ : ∃ sb : ByteArray, (⟨rr.toArray⟩ : ByteArray) = sb := ⟨_, rfl⟩
    have hn1 : (sa.toList == sb.toList) = false := by
     rw [<- hsa, <- hsb, dstr_eq]
     exact beq_eq_false_iff_ne.2 hx
    have hn2 : (sa.toList != sb.toList) = true := by
     unfold bne
     rw [hn1]
     rfl
    rw [hsa] at ht
    rw [hsb]
    have HX := hHd hx
    clear hsa hsb hx
    go_wp2_with fail
    go_ret
    refine ⟨false, rfl, ⟨(fun h => by cases h), (fun h => ?_)⟩, K3.out, S3.out⟩
    have := h k HKL.out
    rw [HAT.out, HNOW.out] at this
    exact absurd this.symm HX.out
  ·obtain rfl : k = 128 := by omega
   have y1 := M1.out.cells.2.1
   go_upto_region 12 with fail
   have hp := ppages_read S1.out HLL.out (-1)
   rw [pageS_no (-1) ST.out (.inl (by decide))] at hp
   refine hp.mono ?_
   clear hp y1 y2
   rintro e w2 ⟨A2, c2, rfl, _, hs2, hk2⟩
   have S2 := hHd hs2
   have M2 := hHd (M1.out.kp hk2)
   have K2 := hHd (K1.out.trans hk2)
   clear hs2 hk2
   go_upto_region 12 with fail
   have C1 := hHd (show w2.drew.cell? ⟨gx, 1, none⟩ = some (.pointer (some ⟨gs, 0, none⟩)) from M2.out.cells.2.1)
   have C2 := hHd (show w2.drew.cell? ⟨gx, 2, none⟩ = some (.slice (some ⟨a, 0, none⟩) 128 c) from cell2 HLEN.out (M2.out.still ((Kp.refl _ _).drew)))
   have KX := hHd ((Kp.refl (fun _ => False) w2).drew)
   refine wp_region_held_drew (S := fun v => v.cell? ⟨gx, 1, none⟩ = some (.pointer (some ⟨gs, 0, none⟩)) /\ v.cell? ⟨gx, 2, none⟩ = some (.slice (some ⟨a, 0, none⟩) 128 c)) (by kernel_rfl) (⟨C1.out, C2.out⟩) (fun hHeld => ?_)
   refine tk 0 (h := ?_)
   refine tk 1 (h := ?_)
   refine tk 2 (h := ?_)
   refine tk 3 (v := ?_) (hy := ?_) (h := ?_)
   rotate_left
   ·intro v hSw
    have y := hSw.1
    go_simp
    with_reducible rfl
   refine tk 4 (h := ?_)
   refine tk 5 (h := ?_)
   refine tk 6 (h := ?_)
   refine tk 7 (h := ?_)
   refine tk 8 (v := ?_) (hy := ?_) (h := ?_)
   rotate_left
   ·intro v hSw
    have y := hSw.2
    go_simp
    with_reducible rfl
   refine tk 9 (h := ?_)
   refine rd 10 (h := fun K hK => ?_)
   go_simp
   have hp := ppages_read (S2.out.still KX.out) HLL.out 128
   rw [pageS_no 128 ST.out (.inr (by decide))] at hp
   refine hp.mono ?_
   clear hp
   rintro e w3 ⟨A3, c3, rfl, _, hs3, hk3⟩
   have S3 := hHd hs3
   have K3 := hHd (K2.out.trans (KX.out.of_false.trans hk3))
   have M3 := hHd (M2.out.kp (KX.out.of_false.trans hk3))
   have C13 := hHd M3.out.cells.2.1
   have C23 := hHd (cell2 HLEN.out M3.out)
   clear hs3 hk3
   go_wp2_with fail
   refine hK.out _ _ (⟨C13.out, C23.out⟩) (fun hHeld52 => ?_)
   clear hK K
   try simp only [Act.put, sIa, sI0, sI1]
   refine tk 11 (h := ?_)
   refine tk 12 (h := ?_)
   refine tk 13 (h := ?_)
   refine tk 14 (h := ?_)
   refine tk 15 (h := ?_)
   refine wpAnyH_done (by kernel_rfl) ?_ _
   clear hHeld KX C23
   go_upto_region 13 with fail
   have KX := hHd ((Kp.refl (fun _ => False) w3).drew)
   refine wp_region_held_drew (S := fun v => v.cell? ⟨gx, 1, none⟩ = some (.pointer (some ⟨gs, 0, none⟩)) /\ v.cell? ⟨gx, 3, none⟩ = some (.map (some g))) (by kernel_rfl) (⟨M3.out.cells.2.1, M3.out.cells.2.2.2.1⟩) (fun hHeld => ?_)
   refine tk 0 (h := ?_)
   refine tk 1 (h := ?_)
   refine tk 2 (h := ?_)
   refine tk 3 (h := ?_)
   refine tk 4 (h := ?_)
   refine tk 5 (h := ?_)
   refine tk 6 (h := ?_)
   refine tk 7 (h := ?_)
   refine tk 8 (h := ?_)
   refine tk 9 (h := ?_)
   refine tk 10 (v := ?_) (hy := ?_) (h := ?_)
   rotate_left
   ·intro v hSw
    have y := hSw.1
    go_simp
    with_reducible rfl
   refine tk 12 (h := ?_)
   refine rd 11 (h := fun K hK => ?_)
   go_simp
   have hu := pused_sto (S3.out.still KX.out)
   rw [ST.out.hs, HCN.out] at hu
   refine hu.mono ?_
   clear hu
   rintro e w4 ⟨rfl, hk4⟩
   have KX4 := hHd (KX.out.trans hk4)
   have S4 := hHd (S3.out.still KX4.out)
   have M4 := hHd (M3.out.still KX4.out)
   clear hk4
   go_wp2_with fail
   refine hK.out _ _ (⟨M4.out.cells.2.1, M4.out.cells.2.2.2.1⟩) (fun hHeld53 => ?_)
   clear hK K
   try simp only [Act.put, sIa, sI0, sI1]
   refine tk 13 (h := ?_)
   refine tk 14 (h := ?_)
   refine tk 15 (h := ?_)
   refine tk 16 (h := ?_)
   refine tk 17 (h := ?_)
   refine tk 18 (h := ?_)
   refine tk 19 (v := ?_) (hy := ?_) (h := ?_)
   rotate_left
   ·intro v hSw
    have y := hSw.1
    go_simp
    with_reducible rfl
   refine tk 21 (h := ?_)
   refine tk 22 (h := ?_)
   refine tk 23 (h := ?_)
   refine tk 24 (h := ?_)
   refine tk 25 (v := ?_) (hy := ?_) (h := ?_)
   rotate_left
   ·intro v hSw
    have y := hSw.2
    go_simp
    with_reducible rfl
   refine rd 20 (h := fun K hK => ?_)
   go_simp
   have hc := pchanged_sto S4.out
   rw [ST.out.hs, HKN.out] at hc
   refine hc.mono ?_
   clear hc
   rintro e w5 ⟨rfl, rfl⟩
   go_wp2_with fail
   refine hK.out _ _ (⟨M4.out.cells.2.1, M4.out.cells.2.2.2.1⟩) (fun hHeld54 => ?_)
   clear hK K
   try simp only [Act.put, sIa, sI0, sI1]
   refine rd 26 (h := fun K hK => ?_)
   have hl := fun ty => M4.out.rv.ch.len ty
   rw [HLEN.out, HKR.out] at hl
   go_simp
   clear hl
   refine hK.out _ _ (⟨M4.out.cells.2.1, M4.out.cells.2.2.2.1⟩) (fun hHeld55 => ?_)
   clear hK K
   try simp only [Act.put, sIa, sI0, sI1]
   refine tk 27 (h := ?_)
   refine tk 28 (h := ?_)
   refine tk 29 (h := ?_)
   refine wpAnyH_done (by kernel_rfl) ?_ _
   clear hHeld
   go_wp2_with fail
   go_ret
   exact ⟨true, rfl, ⟨fun _ => HEQ.out, fun _ => rfl⟩, K3.out.trans KX4.out.of_false, S4.out⟩
end
theorem tbl_low {w : World} (h : Tbl w) : 1 < w.heap.size := by
 have := h 0 (by decide)
 exact World.block_lt_of_cell? _ _ this
theorem btbl_low {w : World} (h : Bt.Tbl w) : 0 < w.heap.size := by
 have := h 0 (by decide)
 exact World.block_lt_of_cell? _ _ this
theorem blank_cm : Cm blankC usedO 128 := ⟨rfl, ⟨by decide, fun i hi => by simp [usedO]; omega⟩, rfl⟩
theorem newR_rel {s : Sm} (h1 : s.used = usedO) (h2 : s.cused = usedO) (h3 : s.chg = bnone) : Rel (newR 128) s blankC 128 := by
 refine ⟨newR_length 128, fun i hi => ?_, h3.symm, ?_, by rw [h2]; exact blank_cm.wf, by rw [h2]; rfl, by rw [h1]; exact blank_cm⟩
 ·show ((List.replicate 128 zsec).set 0 (Bt.pageL usedO)).getD i [] = blankC i
  rw [List.getD_eq_getElem?_getD]
  unfold blankC
  by_cases h : i = 0
  ·subst h
   rw [List.getElem?_set_self (by rw [List.length_replicate]; exact hi), if_pos rfl, Option.getD_some]
  ·rw [List.getElem?_set_ne (Ne.symm h), List.getElem?_replicate_of_lt hi, if_neg h, Option.getD_some]
 ·show ((List.replicate 128 zsec).set 0 (Bt.pageL usedO)).getD 0 [] = _
  rw [List.getD_eq_getElem?_getD, List.getElem?_set_self (by rw [List.length_replicate]; decide), h2, Option.getD_some]
theorem begins_any (L : Nat) (l1 : 96 <= L) (l2 : L <= 150) (w : World) (ht : Tbl w) :
  Calls Tryz.prog 8 #[.int .i64 L] w fun e w' => ∃ gx F gs gl b g1 g2 a c g s d, e = .returned (.tuple #[.pointer (some ⟨gx, 0, none⟩), .bool true]) /\ Jx w.heap.size F w' gx gs gl b g1 g2 a c g L 2 s d (newR 128) blankC /\ s.used = usedO /\ s.cused = usedO /\ d.lit = false /\ w.heap.size <= gx /\ gx < w'.heap.size /\ Kp (fun _ => False) w w' := by
 have HT := hHd ht
 have L1 := hHd l1
 have L2 := hHd l2
 have LOW := hHd (tbl_low ht)
 obtain ⟨q, hq⟩ : ∃ q, 2 + L = q := ⟨_, rfl⟩
 obtain ⟨m, hm⟩ : ∃ m, q + 130 = m := ⟨_, rfl⟩
 have e1 : IntKind.i64.wrap (2 + (L : Int)) = (q : Int) := by rw [IntWalk.i64_in _ (by omega)]; omega
 have e2 : IntKind.i64.wrap ((q : Int) + 130) = (m : Int) := by rw [IntWalk.i64_in _ (by omega)]; omega
 have HM := hHd (show 2 + L + 130 = m by omega)
 clear l1 l2 ht hq hm
 go_enter Tryz.func8, Tryz.ntmps8
 go_wp2_with fail
 clear e1 e2
 refine (dnew_any m (by have := HM.out; omega) (by have := HM.out; have := L2.out; omega) w).mono ?_
 rintro e w1 ⟨b, rfl, hd, hk1⟩
 have D1 := hHd hd
 have K1 := hHd hk1
 clear hd hk1
 have hon : (newDm m).on = List.replicate m zsec0 := rfl
 have hup : Up (newDm m) := ⟨rfl, rfl⟩
 obtain ⟨f1, f2, f3, f4, f5⟩ := formP_out hup rfl L 128 m hon nB L1.out (by have := L2.out; omega) (by have := HM.out; omega) (by decide)
 have hfm := pformat_ok (F := fun k => w.heap.size <= k) (fun k hk => Nat.le_trans K1.out.size hk) (by have := LOW.out; omega) D1.out (HT.out.kp K1.out (fun e => e)) L 128 nB L1.out (by have := L2.out; omega) (by decide) (by decide) (by decide) (by rw [hon, List.length_replicate]; have := HM.out; omega) (by show 0 + 4000 < 1073741824; decide)
 rw [f1] at hfm
 obtain ⟨d2, hd2⟩ : ∃ d2, ((newDm m).formP L 128 nB).1 = d2 := ⟨_, rfl⟩
 rw [hd2] at f2 f3 f4 f5 hfm
 have UP2 := hHd f2
 have LIT2 := hHd f3
 have RC2 := hHd f5
 clear hon hup f1 f2 f3 f4 f5 hd2
 go_wp2_with fail
 refine hfm.mono ?_
 clear hfm
 rintro e w2 ⟨rfl, hd2, hk2⟩
 have D2 := hHd hd2
 have K2 := hHd (K1.out.trans_new hk2 (fun k e => .inl e))
 clear hd2 hk2
 go_wp2_with fail
 refine (open_law (F := fun k => w.heap.size <= k) (fun k hk => Nat.le_trans K2.out.size hk) (by have := LOW.out; omega) D2.out (HT.out.kp K2.out (fun e => e)) UP2.out RC2.out blank_cm (by decide) (by decide) (by decide)).mono ?_
 rintro e w3 ⟨hk3, ⟨gs, gl, g1, g2, s, d, rfl, hsto, hst, n1, n2, n3, n4, hlit⟩ | ⟨d', _, hl, _⟩⟩
 ·have S3 := hHd hsto
  have ST3 := hHd hst
  have N1 := hHd n1
  have N2 := hHd n2
  have N3 := hHd n3
  have N4 := hHd n4
  have LIT3 := hHd (hlit LIT2.out)
  have K3 := hHd (K2.out.trans_new hk3 (fun k e => .inl e))
  clear hsto hst n1 n2 n3 n4 hlit hk3
  go_wp2_with fail
  refine (rnew_any w3 128 (by decide) (by decide)).mono ?_
  rintro e w4 ⟨a, c, g, rfl, hrv, hga, hgg, hk4⟩
  have S4 := hHd (S3.out.thr hk4)
  have R4 := hHd hrv
  have K4 := hHd (K3.out.trans hk4)
  have GA := hHd hga
  have GG := hHd hgg
  have HK4 := hHd hk4
  clear hrv hk4 hga hgg
  unfold rsV
  go_wp2_with fail
  go_ret2
  have hk5 := (Kp.refl (fun _ => False) w4).alloc (.cells (xcs b gs a c g L (newR 128)).toArray 41)
  have hbx := Box.new w4 41 (xcs b gs a c g L (newR 128)).toArray
  have hs5 := S4.out.thr hk5
  have hr5 := R4.out.still hk5
  have hsz := K4.out.size
  have hs3 := K3.out.size
  have h34 := HK4.out.size
  have hl4 := R4.out.lt
  have hl5 := hr5.lt
  refine ⟨w4.heap.size, _, gs, gl, b, g1, g2, a, c, g, s, d, rfl, ⟨⟨hbx, hr5, fun e => ?_, fun e => ?_, fun e => ?_, fun k e => by
   have e : (w4.alloc (.cells (xcs b gs a c g L (newR 128)).toArray 41)).heap.size <= k := e
   have := hk5.size
   exact ⟨⟨by omega, .inr (by omega)⟩, .inr e⟩, fun k e => e.1.1⟩, hs5, ST3.out, newR_rel N2.out N3.out N4.out, N1.out⟩, N2.out, N3.out, LIT3.out, by omega, hbx.lt, K4.out.trans hk5⟩
  ·have := e.2
   have := hbx.lt
   omega
  ·have := e.1.2
   have := GA.out
   omega
  ·have := e.1.2
   have := GG.out
   omega
 ·exact absurd (hl.symm.trans LIT2.out) (by decide)
end Go.Proofs.YtepaeliamhjgiaaGreatDoor
