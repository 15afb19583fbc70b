/- The law of pages, part 50 of 55: PgAgain. -/
import Derived.Test.YtepaeliamhjgiaaGreatDoorMu1
import Derived.Test.YtepaeliamhjgiaaGreatDoorMu48
set_option maxHeartbeats 16000000
set_option maxRecDepth 100000
namespace Go.Proofs.YtepaeliamhjgiaaGreatDoor
open Go.RowKit Go.Maps Go.Shelf
structure Mq where
 a : Nat
 c : Nat
 g : Nat
 R : Rs
section
variable {B : Nat} {F : Nat -> Prop} {w : World} {gx gs gl b g1 g2 a c g L N : Nat} {s : Sm} {d : Dm} {R : Rs} {C : Nat -> List UInt8}
theorem again_any {gm cm : Nat} {u : Nat -> Bool} (M : Mx B F w gx gs b a c g L R) (D : Dsk F w b d) (off : Off d) (rc : Rc d.on L 128 hnB C N) (hcm : Cm C u 128) (hN : N + 3000 < 18446744073709551616) (x : Aw) (ok : x.Ok) (tb : Tbl w) (hB : 1 < B) (hgx : B <= gx)
  (ml : List Mq) (hlen : ml.length <= 2) (hrow : ∀ (W : World), Kp (fun k => F k \/ k = gx) w W -> ∀ (i : Nat) (q : Mq), ml[i]? = some q -> W.rangeAt gm (i * 2) (rsV q.a q.c q.g q.R)) (hrv : ∀ (W : World), Kp (fun k => F k \/ k = gx) w W -> ∀ (i : Nat) (q : Mq), ml[i]? = some q -> Rv W q.a q.c q.g q.R)
  (hmq : ∀ (i : Nat) (q : Mq), ml[i]? = some q -> ¬ F q.a /\ ¬ F q.g /\ q.R.pg.length = 128 /\ q.R.chg = bnone) (hex : ∃ q ∈ ml, ∀ z, z < 128 -> q.R.pg.getD z [] = C z) :
  Calls Tryz.prog 31 #[.pointer (some ⟨gx, 0, none⟩), .agg x.cells, .slice (some ⟨gm, 0, none⟩) ml.length cm] w fun e w' => Kp (fun k => F k \/ k = gx) w w' /\ ∃ F', (∀ k, F' k -> F k) /\ e = .returned (.bool true) /\ ∃ gs gl g1 g2 a c g s d R, Mx B F' w' gx gs b a c g L R /\ Sto F' w' gs gl b g1 g2 s d /\ St d s L 128 hnB C (N + 4) /\ Rel R s C 128 /\ s.note = nB := by
 have HNN := hHd hN
 have OKX := hHd ok
 have TB := hHd tb
 have HB := hHd hB
 have GXB := hHd hgx
 have LOW := hHd M.low
 have CMM := hHd hcm
 have HROW := hHd hrow
 have HRV := hHd hrv
 have HEX := hHd hex
 have HML := hHd hlen
 have RC0 := hHd rc
 have OF0 := hHd off
 obtain ⟨W, hW, ba, kW⟩ : ∃ W, W = w.alloc (.cells x.cells 30) /\ Box W w.heap.size 30 x.cells /\ Kp (fun _ => False) w W := ⟨_, rfl, Box.new w _ _, (Kp.refl _ w).alloc _⟩
 have HW := hHd hW
 obtain ⟨F0, hF0⟩ : ∃ Fj, Thr F w.heap.size W.heap.size = Fj := ⟨_, rfl⟩
 have M0 := hHd (M.thr kW)
 have D0 := hHd (D.thr kW)
 rw [hF0] at M0 D0
 have SUB0 := hHd (show ∀ k, F0 k -> F k from fun k e => by rw [<- hF0] at e; exact e.1)
 have HMQ0 := hHd hmq
 obtain ⟨ga, hga⟩ : ∃ ga, w.heap.size = ga := ⟨_, rfl⟩
 have NA0 := hHd (show ¬ F0 ga from fun e => by rw [<- hF0] at e; exact Thr.out (by omega) (by have := ba.lt; omega) e)
 rw [hga] at ba
 have A0 := hHd ba
 have K0 := hHd (kW.of_false (S := fun k => F k \/ k = gx))
 have HGA := hHd hga
 clear M D off rc hcm hN ok tb hB hgx hlen hrow hrv hmq hex hW ba kW hF0 hga
 go_enter Tryz.func31, Tryz.ntmps31
 go_upto_region 1 with fail
 rw [<- HW.out]
 try rw [HGA.out]
 go_wp2_with fail
 go_loopw [7] (fun s7 wr => ∃ k : Nat, k <= 3 /\ s7 = .int .i64 k /\ ∃ (Fr : Nat -> Prop) (gsr ar cr gr : Nat) (Rr : Rs) (dr : Dm), (∀ k, Fr k -> F k) /\ Mx B Fr wr gx gsr b ar cr gr L Rr /\ Dsk Fr wr b dr /\ Off dr /\ Rc dr.on L 128 hnB C (N + k) /\ Box wr ga 30 x.cells /\ ¬ Fr ga /\ Kp (fun k => F k \/ k = gx) w wr) (fun s7 _ => 4 - (Go.RowKit.intOf s7).toNat)
 case atStart => exact ⟨0, by decide, rfl, F0, gs, a, c, g, R, d, SUB0.out, M0.out, D0.out, OF0.out, RC0.out, A0.out, NA0.out, K0.out⟩
 case round =>
  obtain ⟨k, hk, rfl, Fr, gsr, ar, cr, gr, Rr, dr, hsub, hm, hd, hof, hrc, hba, hna, hkr⟩ := hrel
  have MR := hHd hm
  have SUBR := hHd hsub
  have NAR := hHd hna
  have OFR := hHd hof
  have HMQ := hHd (show ∀ (i : Nat) (q : Mq), ml[i]? = some q -> ¬ Fr q.a /\ ¬ Fr q.g /\ q.R.pg.length = 128 /\ q.R.chg = bnone from fun i q hq => ⟨fun e => (HMQ0.out i q hq).1 (hsub _ e), fun e => (HMQ0.out i q hq).2.1 (hsub _ e), (HMQ0.out i q hq).2.2⟩)
  have RCR2 := hHd (show Rc dr.startS.on L 128 hnB C (N + k) from hrc)
  have UPS := hHd (show Up dr.startS from ⟨rfl, hof.wait⟩)
  have DR := hHd hd
  have AR := hHd hba
  have KR := hHd hkr
  have HK := hHd hk
  have y := hm.cells.1
  clear hm hsub hna hof hrc hd hba hkr
  go_wp2_with fail
  refine (start_any DR.out).mono ?_
  rintro e w1 ⟨rfl, hd1, hk1⟩
  have M1 := hHd (MR.out.kp hk1)
  have D1 := hHd hd1
  have A1 := hHd (AR.out.kp hk1 NAR.out)
  have K1 := hHd (KR.out.trans (hk1.mono fun k _ e => .inl (SUBR.out k e)))
  clear hd1 hk1 y
  by_cases hk3 : k < 3
  ·have yc : w1.cell? ⟨ga, 2, none⟩ = some (.int .u8 x.c.toNat) := A1.out.cell 2
   obtain ⟨bb, hbb⟩ : ∃ bb, (bits .and .u8 ((x.c.toNat : Int) / 2 ^ k) 1 == 1) = bb := ⟨_, rfl⟩
   have KLT := hHd hk3
   rcases bb with _ | _
   ·go_upto_region 7 with fail
    have M2 := hHd M1.out
    have D2 := hHd D1.out
    have A2 := hHd A1.out
    have K2 := hHd K1.out
    have w2e : ∃ w2, w1 = w2 := ⟨_, rfl⟩
    obtain ⟨w2, rfl⟩ := w2e
    clear yc hbb
    have y := M2.out.cells.1
    go_wp2_with fail
    have T2 := TB.out.kp K2.out (fun e => e.elim (fun e => by have := LOW.out _ e; have := HB.out; omega) (fun e => by have := GXB.out; have := HB.out; omega))
    have hop := open_law (F := Fr) M2.out.new (fun e => by have := M2.out.low _ e; have := HB.out; omega) D2.out T2 UPS.out (RCR2.out) CMM.out (by have := HNN.out; omega) (by decide) (by decide)
    refine hop.mono ?_
    clear hop T2 y
    rintro e w3 ⟨hk3, ⟨gs3, gl3, g13, g23, s3, d3, rfl, hsto, hst, n1, n2, n3, n4, hlit⟩ | ⟨d3, rfl, hlit, hdk, hoff, hrc⟩⟩
    ·have S3 := hHd hsto
     have ST3 := hHd hst
     have N1 := hHd n1
     have N2 := hHd n2
     have N3 := hHd n3
     have N4 := hHd n4
     have M3 := hHd (M2.out.kp hk3)
     have K3 := hHd (K2.out.trans (hk3.mono fun k _ e => .inl (SUBR.out k e)))
     have y1 := M3.out.cells.2.1
     have yf1 := M3.out.x.free 1
     clear hsto hst n1 n2 n3 n4 hlit hk3
     go_upto_region 14 with fail
     have hb4 := M3.out.x.put 1 (.pointer (some ⟨gs3, 0, none⟩))
     have hk4 := Kp.one w3 gx 1 (.pointer (some ⟨gs3, 0, none⟩))
     have M4 := hHd (M3.out.told M3.out.rv M3.out.fa M3.out.fg hb4 hk4)
     have S4 := hHd (S3.out.off M3.out.fx hk4)
     have K4 := hHd (K3.out.trans (hk4.mono fun k _ e => .inr e))
     obtain ⟨w4, hw4⟩ : ∃ w4, w3.setCell ⟨gx, 1, none⟩ (.pointer (some ⟨gs3, 0, none⟩)) = w4 := ⟨_, rfl⟩
     rw [hw4] at M4 S4 K4
     try rw [hw4]
     clear hb4 hk4 hw4 y1 yf1
     go_wp2_with fail
     go_loopw [10] (fun s10 wi => ∃ i : Nat, i <= ml.length /\ s10 = .int .i64 i /\ ∃ (ai ci gi : Nat) (Ri : Rs), Mx B Fr wi gx gs3 b ai ci gi L Ri /\ Sto Fr wi gs3 gl3 b g13 g23 s3 d3 /\ (∀ (j : Nat) (q : Mq), j < i -> ml[j]? = some q -> ¬ ∀ z, z < 128 -> q.R.at_ z = C z) /\ Kp (fun k => F k \/ k = gx) w wi) (fun s10 _ => ml.length - (Go.RowKit.intOf s10).toNat)
     case atStart => exact ⟨0, Nat.zero_le _, rfl, _, _, _, _, M4.out, S4.out, fun j q hj => by omega, K4.out⟩
     case round =>
      obtain ⟨i, hi, rfl, ai, ci, gi, Ri, hmi, hsi, hno, hki⟩ := hrel
      have MI := hHd hmi
      have SI := hHd hsi
      have NO := hHd hno
      have KI := hHd hki
      clear hmi hsi hno hki
      have hml2 := HML.out
      by_cases hlt : i < ml.length
      ·obtain ⟨q, hq⟩ : ∃ q, ml[i]? = some q := ⟨_, List.getElem?_eq_getElem hlt⟩
       have HQ := hHd hq
       have RQ := hHd (HROW.out wr KI.out i q hq)
       have VQ := hHd (HRV.out wr KI.out i q hq)
       have PQ := hHd (HMQ.out i q hq)
       clear hq
       go_upto_region 18 with (first | (refine wpList_load_mid rfl 39 (.tmp 76) rfl gm (i * 2) (by simp [go_sem]) (rsV q.a q.c q.g q.R) _ RQ.out Tryz.underlying39 rfl (infoRs _ _ _ _) ?_) | (refine wpList_store_part rfl 39 (.tmp 79) (.tmp 77) rfl gx [.pointer (some ⟨b, 0, none⟩), .pointer (some ⟨gs3, 0, none⟩)] (rsV ai ci gi Ri) (rsV q.a q.c q.g q.R) [.int .i64 (L : Int)] rfl rfl MI.out.x rfl (infoRs _ _ _ _) (rsV_one _ _ _ _) ?_; intro w5 hb5 hk5) | fail)
       have M5 := hHd (MI.out.told VQ.out PQ.out.1 PQ.out.2.1 hb5 hk5)
       have S5 := hHd (SI.out.off MI.out.fx hk5)
       have K5 := hHd (KI.out.trans (hk5.mono fun k _ e => .inr e))
       clear hb5 hk5
       try simp only [Act.put]
       go_wp2_with fail
       have hnow : nowC C s3.chg = C := by rw [N4.out]; rfl
       have hsame := same_any M5.out S5.out ST3.out PQ.out.2.2.1 (by rw [PQ.out.2.2.2, N4.out]) (by rw [hnow, N3.out]; exact CMM.out.p0) (by rw [N3.out]; exact CMM.out.wf) (by have := HNN.out; omega)
       rw [hnow] at hsame
       refine hsame.mono ?_
       clear hsame hnow
       rintro e w6 ⟨r, rfl, hr, hk6, hs6⟩
       have M6 := hHd (M5.out.kp hk6)
       have S6 := hHd hs6
       have K6 := hHd (K5.out.trans (hk6.mono fun k _ e => .inl (SUBR.out k e)))
       have HR := hHd hr
       clear hk6 hs6 hr
       rcases r with _ | _
       ·have y0 := M6.out.cells.1
        go_wp2_with fail
        refine (alive_any (S6.out.dk.mono (fun k e => e.1) : Dsk Fr w6 b d3)).mono ?_
        rw [ST3.out.up.power]
        rintro e w7 ⟨rfl, rfl⟩
        clear y0
        go_wp2_with fail
        go_roundw
        case rel =>
         refine ⟨i + 1, by omega, by go_num, q.a, q.c, q.g, q.R, M6.out, S6.out, ?_, K6.out⟩
         intro j q' hj hq'
         rcases Nat.lt_or_ge j i with h | h
         ·exact NO.out j q' h hq'
         ·have : j = i := by omega
          rw [this, HQ.out] at hq'
          injection hq' with hq'
          rw [<- hq']
          intro h
          have := HR.out.2 h
          cases this
        case measure => simp [Go.RowKit.intOf]; omega
       ·go_wp2_with fail
        go_ret
        have hall := HR.out.1 (by simp)
        refine ⟨K6.out, Fr, SUBR.out, rfl, gs3, gl3, g13, g23, q.a, q.c, q.g, s3, d3, q.R, M6.out, S6.out, ST3.out.mono (by omega), ?_, N1.out⟩
        have hat : ∀ z, q.R.at_ z = q.R.pg.getD z [] := fun z => by unfold Rs.at_; rw [PQ.out.2.2.2]; rfl
        refine ⟨PQ.out.2.2.1, fun z hz => by rw [<- hat z]; exact hall z hz, by rw [PQ.out.2.2.2, N4.out], ?_, by rw [N3.out]; exact CMM.out.wf, by rw [N3.out]; exact CMM.out.u0, by rw [N2.out]; exact CMM.out⟩
        rw [hall 0 (by decide), N3.out]
        exact CMM.out.p0
      ·exfalso
       obtain ⟨q, hqm, hqe⟩ := HEX.out
       obtain ⟨j, hj⟩ := List.getElem?_of_mem hqm
       have hjl := (List.getElem?_eq_some_iff.1 hj).1
       refine NO.out j q (by omega) hj fun z hz => ?_
       have hb := (HMQ.out j q hj).2.2.2
       unfold Rs.at_
       rw [hb]
       exact hqe z hz
    ·have D3 := hHd hdk
     have OF3 := hHd hoff
     have RC3 := hHd hrc
     have M3 := hHd (M2.out.kp hk3)
     have A3 := hHd (A2.out.kp hk3 (fun e => NAR.out e))
     have K3 := hHd (K2.out.trans (hk3.mono fun k _ e => .inl (SUBR.out k e)))
     have HLIT := hHd hlit
     clear hdk hoff hrc hk3 hlit
     exact absurd HLIT.out (by rw [show dr.startS.lit = dr.lit from rfl, OFR.out.lit]; decide)
   ·have hm1 := Int.tmod_lt_of_pos x.n (show (0 : Int) < 30 by decide)
    have hm2 := Int.lt_tmod_of_pos x.n (show (0 : Int) < 30 by decide)
    obtain ⟨z, hz⟩ : ∃ z, x.n.tmod 30 = z := ⟨_, rfl⟩
    rw [hz] at hm1 hm2
    have ew1 : IntKind.i64.wrap z = z := IntWalk.i64_in _ (by omega)
    have ew2 : IntKind.i64.wrap (z + 30) = z + 30 := IntWalk.i64_in _ (by omega)
    obtain ⟨m, hm⟩ : ∃ m : Nat, (z + 30).tmod 30 = (m : Int) := ⟨((z + 30).tmod 30).toNat, by rw [Int.tmod_eq_emod_of_nonneg (by omega)]; omega⟩
    have hm3 : m < 30 := by
     have := Int.tmod_lt_of_pos (z + 30) (show (0 : Int) < 30 by decide)
     omega
    have ew3 : IntKind.i64.wrap (m : Int) = (m : Int) := IntWalk.i64_in _ (by omega)
    obtain ⟨k1, hk1⟩ : ∃ k1, k + 1 = k1 := ⟨_, rfl⟩
    have ew5 : IntKind.i64.wrap ((k : Int) + 1) = (k1 : Int) := by rw [IntWalk.i64_in _ (by omega)]; omega
    have ew5' : (k : Int) + 1 = (k1 : Int) := by omega
    have ew8 : IntKind.i64.wrap (k1 : Int) = (k1 : Int) := IntWalk.i64_in _ (by omega)
    obtain ⟨mk, hmk⟩ : ∃ mk, m * k1 = mk := ⟨_, rfl⟩
    have hmkb : mk <= 90 := by rw [<- hmk]; exact Nat.le_trans (Nat.mul_le_mul (show m <= 30 by omega) (show k1 <= 3 by omega)) (by decide)
    have ew6 : (m : Int) * (k1 : Int) = (mk : Int) := by rw [<- hmk]; exact (Int.natCast_mul m k1).symm
    have ew7 : IntKind.i64.wrap (mk : Int) = (mk : Int) := IntWalk.i64_in _ (by omega)
    have MKB := hHd hmkb
    clear hm1 hm2 hm3 hk1 hmk hmkb
    go_upto_region 6 with fail
    clear yc hbb
    have kd0 : Kp (fun _ => False) w1 w1.drew := (Kp.refl _ _).drew
    refine wp_region_held_drew (S := fun v => v.cell? ⟨gx, 0, none⟩ = some (.pointer (some ⟨b, 0, none⟩)) /\ Box v ga 30 x.cells) (by kernel_rfl) (⟨(M1.out.still kd0).cells.1, A1.out.kp kd0 (fun e => e)⟩) (fun hHeld => ?_)
    refine tk 0 (h := ?_)
    refine tk 1 (h := ?_)
    refine tk 2 (h := ?_)
    refine tk 3 (v := ?_) (hy := ?_) (h := ?_)
    rotate_left
    ·intro v hSw
     have y := hSw.1
     go_simp
     with_reducible rfl
    refine tk 4 (h := ?_)
    refine tk 5 (v := ?_) (hy := ?_) (h := ?_)
    rotate_left
    ·intro v hSw
     have y : v.cell? ⟨ga, 1, none⟩ = some (.int .i64 x.n) := hSw.2.cell 1
     go_simp
     with_reducible rfl
    refine tk 6 (h := ?_)
    refine tk 7 (h := ?_)
    refine tk 8 (h := ?_)
    refine tk 9 (h := ?_)
    refine tk 10 (h := ?_)
    refine tk 11 (h := ?_)
    refine tk 12 (h := ?_)
    refine tk 13 (v := ?_) (hy := ?_) (h := ?_)
    rotate_left
    ·intro v hSw
     have y : v.cell? ⟨ga, 3, none⟩ = some (.string ⟨x.keep.toArray⟩) := hSw.2.cell 3
     go_simp
     with_reducible rfl
    refine rd 14 (h := fun K hK => ?_)
    go_simp
    refine (fuse_any (D1.out.still kd0) (mk : Int) (by have := MKB.out; omega) x.keep OKX.out.k1).mono ?_
    rintro e w2 ⟨rfl, hd2, hk2⟩
    have M2 := hHd ((M1.out.still kd0).kp hk2)
    have D2 := hHd hd2
    have A2 := hHd ((A1.out.kp kd0 (fun e => e)).kp hk2 (fun e => NAR.out e))
    have K2 := hHd (K1.out.trans (kd0.of_false.trans (hk2.mono fun k _ e => .inl (SUBR.out k e))))
    clear hd2 hk2
    go_wp2_with fail
    refine hK.out _ _ (⟨M2.out.cells.1, A2.out⟩) (fun hHeld52 => ?_)
    clear hK K
    try simp only [Act.put, sIa, sI0, sI1]
    refine wpAnyH_done (by kernel_rfl) ?_ _
    clear hHeld kd0
    clear hz ew1 ew2 hm ew3 ew5 ew5' ew6 ew7 ew8
    have UPF := hHd (show Up (dr.startS.fuseS (mk : Int) x.keep).1 by
     unfold Dm.fuseS
     rw [if_pos (by simp)]
     exact ⟨UPS.out.power, UPS.out.wait⟩)
    have RCR3 := hHd (show Rc (dr.startS.fuseS (mk : Int) x.keep).1.on L 128 hnB C (N + k) by
     unfold Dm.fuseS
     rw [if_pos (by simp)]
     exact RCR2.out)
    clear RCR2
    have RCR2 := hHd RCR3.out
    clear RCR3
    have y := M2.out.cells.1
    go_wp2_with fail
    have T2 := TB.out.kp K2.out (fun e => e.elim (fun e => by have := LOW.out _ e; have := HB.out; omega) (fun e => by have := GXB.out; have := HB.out; omega))
    have hop := open_law (F := Fr) M2.out.new (fun e => by have := M2.out.low _ e; have := HB.out; omega) D2.out T2 UPF.out (RCR2.out) CMM.out (by have := HNN.out; omega) (by decide) (by decide)
    refine hop.mono ?_
    clear hop T2 y
    rintro e w3 ⟨hk3, ⟨gs3, gl3, g13, g23, s3, d3, rfl, hsto, hst, n1, n2, n3, n4, hlit⟩ | ⟨d3, rfl, hlit, hdk, hoff, hrc⟩⟩
    ·have S3 := hHd hsto
     have ST3 := hHd hst
     have N1 := hHd n1
     have N2 := hHd n2
     have N3 := hHd n3
     have N4 := hHd n4
     have M3 := hHd (M2.out.kp hk3)
     have K3 := hHd (K2.out.trans (hk3.mono fun k _ e => .inl (SUBR.out k e)))
     have y1 := M3.out.cells.2.1
     have yf1 := M3.out.x.free 1
     clear hsto hst n1 n2 n3 n4 hlit hk3
     go_upto_region 14 with fail
     have hb4 := M3.out.x.put 1 (.pointer (some ⟨gs3, 0, none⟩))
     have hk4 := Kp.one w3 gx 1 (.pointer (some ⟨gs3, 0, none⟩))
     have M4 := hHd (M3.out.told M3.out.rv M3.out.fa M3.out.fg hb4 hk4)
     have S4 := hHd (S3.out.off M3.out.fx hk4)
     have K4 := hHd (K3.out.trans (hk4.mono fun k _ e => .inr e))
     obtain ⟨w4, hw4⟩ : ∃ w4, w3.setCell ⟨gx, 1, none⟩ (.pointer (some ⟨gs3, 0, none⟩)) = w4 := ⟨_, rfl⟩
     rw [hw4] at M4 S4 K4
     try rw [hw4]
     clear hb4 hk4 hw4 y1 yf1
     go_wp2_with fail
     go_loopw [10] (fun s10 wi => ∃ i : Nat, i <= ml.length /\ s10 = .int .i64 i /\ ∃ (ai ci gi : Nat) (Ri : Rs), Mx B Fr wi gx gs3 b ai ci gi L Ri /\ Sto Fr wi gs3 gl3 b g13 g23 s3 d3 /\ (∀ (j : Nat) (q : Mq), j < i -> ml[j]? = some q -> ¬ ∀ z, z < 128 -> q.R.at_ z = C z) /\ Kp (fun k => F k \/ k = gx) w wi) (fun s10 _ => ml.length - (Go.RowKit.intOf s10).toNat)
     case atStart => exact ⟨0, Nat.zero_le _, rfl, _, _, _, _, M4.out, S4.out, fun j q hj => by omega, K4.out⟩
     case round =>
      obtain ⟨i, hi, rfl, ai, ci, gi, Ri, hmi, hsi, hno, hki⟩ := hrel
      have MI := hHd hmi
      have SI := hHd hsi
      have NO := hHd hno
      have KI := hHd hki
      clear hmi hsi hno hki
      have hml2 := HML.out
      by_cases hlt : i < ml.length
      ·obtain ⟨q, hq⟩ : ∃ q, ml[i]? = some q := ⟨_, List.getElem?_eq_getElem hlt⟩
       have HQ := hHd hq
       have RQ := hHd (HROW.out wr KI.out i q hq)
       have VQ := hHd (HRV.out wr KI.out i q hq)
       have PQ := hHd (HMQ.out i q hq)
       clear hq
       go_upto_region 18 with (first | (refine wpList_load_mid rfl 39 (.tmp 76) rfl gm (i * 2) (by simp [go_sem]) (rsV q.a q.c q.g q.R) _ RQ.out Tryz.underlying39 rfl (infoRs _ _ _ _) ?_) | (refine wpList_store_part rfl 39 (.tmp 79) (.tmp 77) rfl gx [.pointer (some ⟨b, 0, none⟩), .pointer (some ⟨gs3, 0, none⟩)] (rsV ai ci gi Ri) (rsV q.a q.c q.g q.R) [.int .i64 (L : Int)] rfl rfl MI.out.x rfl (infoRs _ _ _ _) (rsV_one _ _ _ _) ?_; intro w5 hb5 hk5) | fail)
       have M5 := hHd (MI.out.told VQ.out PQ.out.1 PQ.out.2.1 hb5 hk5)
       have S5 := hHd (SI.out.off MI.out.fx hk5)
       have K5 := hHd (KI.out.trans (hk5.mono fun k _ e => .inr e))
       clear hb5 hk5
       try simp only [Act.put]
       go_wp2_with fail
       have hnow : nowC C s3.chg = C := by rw [N4.out]; rfl
       have hsame := same_any M5.out S5.out ST3.out PQ.out.2.2.1 (by rw [PQ.out.2.2.2, N4.out]) (by rw [hnow, N3.out]; exact CMM.out.p0) (by rw [N3.out]; exact CMM.out.wf) (by have := HNN.out; omega)
       rw [hnow] at hsame
       refine hsame.mono ?_
       clear hsame hnow
       rintro e w6 ⟨r, rfl, hr, hk6, hs6⟩
       have M6 := hHd (M5.out.kp hk6)
       have S6 := hHd hs6
       have K6 := hHd (K5.out.trans (hk6.mono fun k _ e => .inl (SUBR.out k e)))
       have HR := hHd hr
       clear hk6 hs6 hr
       rcases r with _ | _
       ·have y0 := M6.out.cells.1
        go_wp2_with fail
        refine (alive_any (S6.out.dk.mono (fun k e => e.1) : Dsk Fr w6 b d3)).mono ?_
        rw [ST3.out.up.power]
        rintro e w7 ⟨rfl, rfl⟩
        clear y0
        go_wp2_with fail
        go_roundw
        case rel =>
         refine ⟨i + 1, by omega, by go_num, q.a, q.c, q.g, q.R, M6.out, S6.out, ?_, K6.out⟩
         intro j q' hj hq'
         rcases Nat.lt_or_ge j i with h | h
         ·exact NO.out j q' h hq'
         ·have : j = i := by omega
          rw [this, HQ.out] at hq'
          injection hq' with hq'
          rw [<- hq']
          intro h
          have := HR.out.2 h
          cases this
        case measure => simp [Go.RowKit.intOf]; omega
       ·go_wp2_with fail
        go_ret
        have hall := HR.out.1 (by simp)
        refine ⟨K6.out, Fr, SUBR.out, rfl, gs3, gl3, g13, g23, q.a, q.c, q.g, s3, d3, q.R, M6.out, S6.out, ST3.out.mono (by omega), ?_, N1.out⟩
        have hat : ∀ z, q.R.at_ z = q.R.pg.getD z [] := fun z => by unfold Rs.at_; rw [PQ.out.2.2.2]; rfl
        refine ⟨PQ.out.2.2.1, fun z hz => by rw [<- hat z]; exact hall z hz, by rw [PQ.out.2.2.2, N4.out], ?_, by rw [N3.out]; exact CMM.out.wf, by rw [N3.out]; exact CMM.out.u0, by rw [N2.out]; exact CMM.out⟩
        rw [hall 0 (by decide), N3.out]
        exact CMM.out.p0
      ·exfalso
       obtain ⟨q, hqm, hqe⟩ := HEX.out
       obtain ⟨j, hj⟩ := List.getElem?_of_mem hqm
       have hjl := (List.getElem?_eq_some_iff.1 hj).1
       refine NO.out j q (by omega) hj fun z hz => ?_
       have hb := (HMQ.out j q hj).2.2.2
       unfold Rs.at_
       rw [hb]
       exact hqe z hz
    ·have D3 := hHd hdk
     have OF3 := hHd hoff
     have RC3 := hHd hrc
     have M3 := hHd (M2.out.kp hk3)
     have A3 := hHd (A2.out.kp hk3 (fun e => NAR.out e))
     have K3 := hHd (K2.out.trans (hk3.mono fun k _ e => .inl (SUBR.out k e)))
     have HLIT := hHd hlit
     clear hdk hoff hrc hk3 hlit
     go_wp2_with fail
     go_roundw
     case rel => exact ⟨k + 1, by have := KLT.out; omega, by go_num, Fr, _, _, _, _, _, d3, SUBR.out, M3.out, D3.out, OF3.out, by rw [<- Nat.add_assoc]; exact RC3.out, A3.out, NAR.out, K3.out⟩
     case measure => simp [Go.RowKit.intOf]; have := KLT.out; omega
  ·obtain rfl : k = 3 := by have := HK.out; omega
   go_upto_region 7 with fail
   have M2 := hHd M1.out
   have D2 := hHd D1.out
   have A2 := hHd A1.out
   have K2 := hHd K1.out
   have w2e : ∃ w2, w1 = w2 := ⟨_, rfl⟩
   obtain ⟨w2, rfl⟩ := w2e
   have y := M2.out.cells.1
   go_wp2_with fail
   have T2 := TB.out.kp K2.out (fun e => e.elim (fun e => by have := LOW.out _ e; have := HB.out; omega) (fun e => by have := GXB.out; have := HB.out; omega))
   have hop := open_law (F := Fr) M2.out.new (fun e => by have := M2.out.low _ e; have := HB.out; omega) D2.out T2 UPS.out (RCR2.out) CMM.out (by have := HNN.out; omega) (by decide) (by decide)
   refine hop.mono ?_
   clear hop T2 y
   rintro e w3 ⟨hk3, ⟨gs3, gl3, g13, g23, s3, d3, rfl, hsto, hst, n1, n2, n3, n4, hlit⟩ | ⟨d3, rfl, hlit, hdk, hoff, hrc⟩⟩
   ·have S3 := hHd hsto
    have ST3 := hHd hst
    have N1 := hHd n1
    have N2 := hHd n2
    have N3 := hHd n3
    have N4 := hHd n4
    have M3 := hHd (M2.out.kp hk3)
    have K3 := hHd (K2.out.trans (hk3.mono fun k _ e => .inl (SUBR.out k e)))
    have y1 := M3.out.cells.2.1
    have yf1 := M3.out.x.free 1
    clear hsto hst n1 n2 n3 n4 hlit hk3
    go_upto_region 14 with fail
    have hb4 := M3.out.x.put 1 (.pointer (some ⟨gs3, 0, none⟩))
    have hk4 := Kp.one w3 gx 1 (.pointer (some ⟨gs3, 0, none⟩))
    have M4 := hHd (M3.out.told M3.out.rv M3.out.fa M3.out.fg hb4 hk4)
    have S4 := hHd (S3.out.off M3.out.fx hk4)
    have K4 := hHd (K3.out.trans (hk4.mono fun k _ e => .inr e))
    obtain ⟨w4, hw4⟩ : ∃ w4, w3.setCell ⟨gx, 1, none⟩ (.pointer (some ⟨gs3, 0, none⟩)) = w4 := ⟨_, rfl⟩
    rw [hw4] at M4 S4 K4
    try rw [hw4]
    clear hb4 hk4 hw4 y1 yf1
    go_wp2_with fail
    go_loopw [10] (fun s10 wi => ∃ i : Nat, i <= ml.length /\ s10 = .int .i64 i /\ ∃ (ai ci gi : Nat) (Ri : Rs), Mx B Fr wi gx gs3 b ai ci gi L Ri /\ Sto Fr wi gs3 gl3 b g13 g23 s3 d3 /\ (∀ (j : Nat) (q : Mq), j < i -> ml[j]? = some q -> ¬ ∀ z, z < 128 -> q.R.at_ z = C z) /\ Kp (fun k => F k \/ k = gx) w wi) (fun s10 _ => ml.length - (Go.RowKit.intOf s10).toNat)
    case atStart => exact ⟨0, Nat.zero_le _, rfl, _, _, _, _, M4.out, S4.out, fun j q hj => by omega, K4.out⟩
    case round =>
     obtain ⟨i, hi, rfl, ai, ci, gi, Ri, hmi, hsi, hno, hki⟩ := hrel
     have MI := hHd hmi
     have SI := hHd hsi
     have NO := hHd hno
     have KI := hHd hki
     clear hmi hsi hno hki
     have hml2 := HML.out
     by_cases hlt : i < ml.length
     ·obtain ⟨q, hq⟩ : ∃ q, ml[i]? = some q := ⟨_, List.getElem?_eq_getElem hlt⟩
      have HQ := hHd hq
      have RQ := hHd (HROW.out wr KI.out i q hq)
      have VQ := hHd (HRV.out wr KI.out i q hq)
      have PQ := hHd (HMQ.out i q hq)
      clear hq
      go_upto_region 18 with (first | (refine wpList_load_mid rfl 39 (.tmp 76) rfl gm (i * 2) (by simp [go_sem]) (rsV q.a q.c q.g q.R) _ RQ.out Tryz.underlying39 rfl (infoRs _ _ _ _) ?_) | (refine wpList_store_part rfl 39 (.tmp 79) (.tmp 77) rfl gx [.pointer (some ⟨b, 0, none⟩), .pointer (some ⟨gs3, 0, none⟩)] (rsV ai ci gi Ri) (rsV q.a q.c q.g q.R) [.int .i64 (L : Int)] rfl rfl MI.out.x rfl (infoRs _ _ _ _) (rsV_one _ _ _ _) ?_; intro w5 hb5 hk5) | fail)
      have M5 := hHd (MI.out.told VQ.out PQ.out.1 PQ.out.2.1 hb5 hk5)
      have S5 := hHd (SI.out.off MI.out.fx hk5)
      have K5 := hHd (KI.out.trans (hk5.mono fun k _ e => .inr e))
      clear hb5 hk5
      try simp only [Act.put]
      go_wp2_with fail
      have hnow : nowC C s3.chg = C := by rw [N4.out]; rfl
      have hsame := same_any M5.out S5.out ST3.out PQ.out.2.2.1 (by rw [PQ.out.2.2.2, N4.out]) (by rw [hnow, N3.out]; exact CMM.out.p0) (by rw [N3.out]; exact CMM.out.wf) (by have := HNN.out; omega)
      rw [hnow] at hsame
      refine hsame.mono ?_
      clear hsame hnow
      rintro e w6 ⟨r, rfl, hr, hk6, hs6⟩
      have M6 := hHd (M5.out.kp hk6)
      have S6 := hHd hs6
      have K6 := hHd (K5.out.trans (hk6.mono fun k _ e => .inl (SUBR.out k e)))
      have HR := hHd hr
      clear hk6 hs6 hr
      rcases r with _ | _
      ·have y0 := M6.out.cells.1
       go_wp2_with fail
       refine (alive_any (S6.out.dk.mono (fun k e => e.1) : Dsk Fr w6 b d3)).mono ?_
       rw [ST3.out.up.power]
       rintro e w7 ⟨rfl, rfl⟩
       clear y0
       go_wp2_with fail
       go_roundw
       case rel =>
        refine ⟨i + 1, by omega, by go_num, q.a, q.c, q.g, q.R, M6.out, S6.out, ?_, K6.out⟩
        intro j q' hj hq'
        rcases Nat.lt_or_ge j i with h | h
        ·exact NO.out j q' h hq'
        ·have : j = i := by omega
         rw [this, HQ.out] at hq'
         injection hq' with hq'
         rw [<- hq']
         intro h
         have := HR.out.2 h
         cases this
       case measure => simp [Go.RowKit.intOf]; omega
      ·go_wp2_with fail
       go_ret
       have hall := HR.out.1 (by simp)
       refine ⟨K6.out, Fr, SUBR.out, rfl, gs3, gl3, g13, g23, q.a, q.c, q.g, s3, d3, q.R, M6.out, S6.out, ST3.out.mono (by omega), ?_, N1.out⟩
       have hat : ∀ z, q.R.at_ z = q.R.pg.getD z [] := fun z => by unfold Rs.at_; rw [PQ.out.2.2.2]; rfl
       refine ⟨PQ.out.2.2.1, fun z hz => by rw [<- hat z]; exact hall z hz, by rw [PQ.out.2.2.2, N4.out], ?_, by rw [N3.out]; exact CMM.out.wf, by rw [N3.out]; exact CMM.out.u0, by rw [N2.out]; exact CMM.out⟩
       rw [hall 0 (by decide), N3.out]
       exact CMM.out.p0
     ·exfalso
      obtain ⟨q, hqm, hqe⟩ := HEX.out
      obtain ⟨j, hj⟩ := List.getElem?_of_mem hqm
      have hjl := (List.getElem?_eq_some_iff.1 hj).1
      refine NO.out j q (by omega) hj fun z hz => ?_
      have hb := (HMQ.out j q hj).2.2.2
      unfold Rs.at_
      rw [hb]
      exact hqe z hz
   ·have D3 := hHd hdk
    have OF3 := hHd hoff
    have RC3 := hHd hrc
    have M3 := hHd (M2.out.kp hk3)
    have A3 := hHd (A2.out.kp hk3 (fun e => NAR.out e))
    have K3 := hHd (K2.out.trans (hk3.mono fun k _ e => .inl (SUBR.out k e)))
    have HLIT := hHd hlit
    clear hdk hoff hrc hk3 hlit
    exact absurd HLIT.out (by rw [show dr.startS.lit = dr.lit from rfl, OFR.out.lit]; decide)
end
end Go.Proofs.YtepaeliamhjgiaaGreatDoor
