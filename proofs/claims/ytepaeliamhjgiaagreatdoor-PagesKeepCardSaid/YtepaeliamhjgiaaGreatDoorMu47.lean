/- The law of pages, part 47 of 55: PgMany. -/
import Derived.Test.YtepaeliamhjgiaaGreatDoorMu1
import Derived.Test.YtepaeliamhjgiaaGreatDoorMu44
set_option maxHeartbeats 16000000
set_option maxRecDepth 100000
namespace Go.Proofs.YtepaeliamhjgiaaGreatDoor
open Go.RowKit Go.Maps Go.Shelf
section
variable {B : Nat} {F : Nat -> Prop} {w : World} {gx gs gl b g1 g2 a c g L N : Nat} {s : Sm} {d : Dm} {R : Rs} {C : Nat -> List UInt8}
theorem many_any (J : Jx B F w gx gs gl b g1 g2 a c g L N s d R C) (_hN : N + 2000 < 18446744073709551616) (x : Aw) (_ok : x.Ok) :
  Calls Tryz.prog 38 #[.pointer (some ⟨gx, 0, none⟩), .agg x.cells] w fun e w' => Kp (fun k => F k \/ k = gx) w w' /\ DidOk B F w' gx b L N d R C false e := by
 have ST := hHd J.st
 have RL := hHd J.rel
 have NT := hHd J.note
 obtain ⟨W, hW, ba, kW⟩ : ∃ W, W = w.alloc (.cells x.cells 30) /\ Box W w.heap.size 30 x.cells /\ Kp (fun _ => False) w W := ⟨_, rfl, Box.new w _ _, (Kp.refl _ w).alloc _⟩
 have HW := hHd hW
 have M9 := hHd J.m
 have S9 := hHd J.sto
 have SUB9 := hHd (show ∀ k, F k -> F k from fun k e => e)
 have hgl := ba.lt
 obtain ⟨F0, hF0⟩ : ∃ Fj, Thr F w.heap.size W.heap.size = Fj := ⟨_, rfl⟩
 have M0 := hHd (M9.out.thr kW)
 have S0 := hHd (S9.out.thr kW)
 rw [hF0] at M0 S0
 have SUB0 := hHd (show ∀ k, F0 k -> F k from fun k e => by rw [<- hF0] at e; exact SUB9.out k e.1)
 have OUT0 := hHd (show ∀ k, w.heap.size <= k -> k < W.heap.size -> ¬ F0 k from fun k h1 h2 e => by rw [<- hF0] at e; exact Thr.out h1 h2 e)
 have LE0 := hHd (show ∀ k, F0 k -> F k from fun k e => by rw [<- hF0] at e; exact e.1)
 clear hF0
 obtain ⟨ga, hga⟩ : ∃ ga, w.heap.size = ga := ⟨_, rfl⟩
 have NA0 := hHd (show ¬ F0 ga from OUT0.out ga (by omega) (by omega))
 rw [hga] at ba
 have A0 := hHd ba
 have K0 := hHd (kW.of_false (S := fun k => F k \/ k = gx))
 have HGA := hHd hga
 have hm1 := Int.tmod_lt_of_pos x.n (show (0 : Int) < 120 by decide)
 have hm2 := Int.lt_tmod_of_pos x.n (show (0 : Int) < 120 by decide)
 obtain ⟨z, hz⟩ : ∃ z, x.n.tmod 120 = z := ⟨_, rfl⟩
 rw [hz] at hm1 hm2
 have ew1 : IntKind.i64.wrap z = z := IntWalk.i64_in _ (by omega)
 have ew2 : IntKind.i64.wrap (z + 120) = z + 120 := IntWalk.i64_in _ (by omega)
 obtain ⟨m, hm⟩ : ∃ m : Nat, (z + 120).tmod 120 = (m : Int) := ⟨((z + 120).tmod 120).toNat, by rw [Int.tmod_eq_emod_of_nonneg (by omega)]; omega⟩
 have hm3 : m < 120 := by
  have := Int.tmod_lt_of_pos (z + 120) (show (0 : Int) < 120 by decide)
  omega
 have ew3 : IntKind.i64.wrap (m : Int) = (m : Int) := IntWalk.i64_in _ (by omega)
 have ew4 : (z + 120) % 120 = (m : Int) := by rw [<- hm, Int.tmod_eq_emod_of_nonneg (by omega)]
 have y1 : W.cell? ⟨ga, 1, none⟩ = some (.int .i64 x.n) := A0.out.cell 1
 have y2 : W.cell? ⟨ga, 2, none⟩ = some (.int .u8 x.c.toNat) := A0.out.cell 2
 clear J hW ba kW M9 S9 SUB9 hgl hga hm1 hm2
 go_enter Tryz.func38, Tryz.ntmps38
 go_upto_region 1 with fail
 rw [<- HW.out]
 try rw [HGA.out]
 go_wp2_with fail
 clear y1 y2 hz ew1 ew2 hm ew4
 go_loopw [6] (fun s6 wr => ∃ i : Nat, 1 <= i /\ i <= m + 1 /\ s6 = .int .i64 i /\ ∃ (Fr : Nat -> Prop) (gq : Nat) (sr : Sm) (Rr : Rs), (∀ k, Fr k -> F k) /\ ¬ Fr ga /\ Mx B Fr wr gx gs b a c gq L Rr /\ Sto Fr wr gs gl b g1 g2 sr d /\ St d sr L 128 hnB C N /\ Rel Rr sr C 128 /\ sr.note = nB /\ Box wr ga 30 x.cells /\ Kp (fun k => F k \/ k = gx) w wr)
  (fun s6 _ => m + 1 - (Go.RowKit.intOf s6).toNat)
 case atStart => exact ⟨1, Nat.le_refl _, by omega, rfl, F0, g, s, R, SUB0.out, NA0.out, M0.out, S0.out, ST.out, RL.out, NT.out, A0.out, K0.out⟩
 case round =>
  obtain ⟨i, h1, hi, rfl, F1, gq, sr, R2, hsub, hna, hm0, hs0, hst, hrl, hnt, hba, hkr⟩ := hrel
  have M1 := hHd hm0
  have S1 := hHd hs0
  have SUB1 := hHd hsub
  have NAR := hHd hna
  have STR := hHd hst
  have RLR := hHd hrl
  have NTR := hHd hnt
  have BAR := hHd hba
  have KR := hHd hkr
  clear hm0 hs0 hsub hna hst hrl hnt hba hkr
  by_cases hlt : i <= m
  ·have HI1 := hHd h1
   have HI := hHd (show i < 128 by omega)
   have y2 : wr.cell? ⟨ga, 2, none⟩ = some (.int .u8 x.c.toNat) := BAR.out.cell 2
   have hi256 : (i : Int) % 256 = (i : Int) := by omega
   obtain ⟨cc, hcc⟩ : ∃ cc : UInt8, x.c + UInt8.ofNat i = cc := ⟨_, rfl⟩
   have hce : ((x.c.toNat : Int) + (i : Int)) % 256 = (cc.toNat : Int) := by
    rw [<- hcc, UInt8.toNat_add, UInt8.toNat_ofNat']
    omega
   clear hcc
   go_wp2_with fail
   refine (full_any cc _).mono ?_
   rintro e w2 ⟨gb, rfl, hbf, hgf, hk2⟩
   obtain ⟨F2, hF2⟩ : ∃ Fj, Thr F1 wr.heap.size w2.heap.size = Fj := ⟨_, rfl⟩
   have M2 := hHd (M1.out.thr hk2)
   have S2 := hHd (S1.out.thr hk2)
   rw [hF2] at M2 S2
   have SUB2 := hHd (show ∀ k, F2 k -> F k from fun k e => by rw [<- hF2] at e; exact SUB1.out k e.1)
   have OUT2 := hHd (show ∀ k, wr.heap.size <= k -> k < w2.heap.size -> ¬ F2 k from fun k h1 h2 e => by rw [<- hF2] at e; exact Thr.out h1 h2 e)
   have LE2 := hHd (show ∀ k, F2 k -> F1 k from fun k e => by rw [<- hF2] at e; exact e.1)
   clear hF2
   have NB2 := hHd (OUT2.out gb hgf hbf.lt)
   have BF := hHd hbf
   have A2 := hHd (BAR.out.kp hk2 (fun e => e))
   have KK2 := hHd hk2
   have K2 := hHd (KR.out.trans hk2.of_false)
   clear hbf hgf hk2 y2 hce hi256
   obtain ⟨R4, hR4⟩ : ∃ R4 : Rs, (⟨R2.pg, R2.chg.put i (fullL cc)⟩ : Rs) = R4 := ⟨_, rfl⟩
   have HR4 := hHd hR4
   have hl4 : R4.pg.length = R2.pg.length := by rw [<- hR4]
   clear hR4
   go_upto_region 6 with fail
   have KX := hHd ((Kp.refl (fun _ => False) w2).drew)
   refine wp_region_held_drew (S := fun _ => True) (by kernel_rfl) (trivial) (fun hHeld => ?_)
   refine tk 0 (h := ?_)
   refine tk 1 (h := ?_)
   refine tk 2 (h := ?_)
   refine tk 4 (h := ?_)
   refine tk 5 (h := ?_)
   refine wpAnyH_ready (rs := [3, 6, 11]) (by kernel_rfl) (by simp) ?_
   refine rdc 3 (h := fun K hK => ?_) (hs := rdc 6 (h := fun K hK => ?_) (hs := rdc 11 (h := fun K hK => ?_) (hs := AllReadyH.nil)))
   ·rw [if_pos (by rfl)]
    refine wp_load_mid 39 (.tmp 29) rfl gx 2 rfl (rsV a c gq R2) _ (M2.out.still KX.out).rs Tryz.underlying39 rfl (infoRs _ _ _ _) ?_
    refine hK.out _ _ (trivial) (fun hHeld82 => ?_)
    clear hK K
    try simp only [Act.put, sIa, sI0, sI1]
    refine wpAnyH_ready (rs := [6, 11]) (by kernel_rfl) (by simp) ?_
    refine rdc 6 (h := fun K hK => ?_) (hs := rdc 11 (h := fun K hK => ?_) (hs := AllReadyH.nil))
    ·have hrd : Rd w2 (some ⟨gb, 0, none⟩) (fullL cc) := .inr ⟨gb, 0, rfl, fun j u hj => by
      rw [Nat.zero_add, BF.out.cell, List.getElem?_toArray]
      unfold bcs
      rw [List.getElem?_map, hj]
      rfl⟩
     have ht := (hrd.kp KX.out (fun _ _ e => e)).text (P := Tryz.prog) 50 9 5 512 Tryz.underlying50 Tryz.underlying5 Tryz.underlying9
     rw [fullL_length] at ht
     go_simp
     clear ht hrd
     refine hK.out _ _ (trivial) (fun hHeld61 => ?_)
     clear hK K
     try simp only [Act.put, sIa, sI0, sI1]
     refine wpAnyH_ready (rs := [7, 11]) (by kernel_rfl) (by simp) ?_
     refine rdc 7 (h := fun K hK => ?_) (hs := rdc 11 (h := fun K hK => ?_) (hs := AllReadyH.nil))
     ·go_simp
      have hcall := rput_yes (M2.out.rv.still KX.out) i HI1.out (by rw [RLR.out.len]; exact HI.out) (fullL cc) (fullL_length _)
      rw [HR4.out] at hcall
      refine hcall.mono ?_
      clear hcall
      rintro e w5 ⟨g', rfl, hr, hg', hk5⟩
      have KX5 := hHd (KX.out.trans hk5)
      have HGE := hHd (Nat.le_trans KX.out.size hg')
      have R5 := hHd hr
      clear hr hg' hk5 KX
      have KX := hHd KX5.out
      clear KX5
      go_wp2_with fail
      refine hK.out _ _ (trivial) (fun hHeld56 => ?_)
      clear hK K
      try simp only [Act.put, sIa, sI0, sI1]
      refine tk 8 (h := ?_)
      refine tk 9 (h := ?_)
      refine tk 10 (h := ?_)
      refine rd 11 (h := fun K hK => ?_)
      go_simp
      obtain ⟨wn, hwn, kn, bn⟩ : ∃ wn, wn = (World.alloc (w5) (.cells #[.slice none 0 0, .map none] 39)) /\ Kp (fun _ => False) (w5) wn /\ Box wn (World.heap (w5)).size 39 #[.slice none 0 0, .map none] := ⟨_, rfl, ((Kp.refl _ _).alloc _), Box.new _ _ _⟩
      rw [<- hwn]
      obtain ⟨gt, hgt⟩ : ∃ gt, (World.heap (w5)).size = gt := ⟨_, rfl⟩
      have HGT := hHd (show w2.heap.size <= gt by rw [<- hgt]; exact KX.out.size)
      rw [hgt] at bn
      try rw [hgt]
      try rw [show w2.heap.size = gt from hgt]
      have BT := hHd bn
      have KXN := hHd (KX.out.trans kn)
      have R5N := hHd (R5.out.still kn)
      clear R5
      have R5 := hHd R5N.out
      clear R5N
      clear hwn kn bn hgt KX
      have KX := hHd KXN.out
      clear KXN
      refine hK.out _ _ (trivial) (fun hHeld53 => ?_)
      clear hK K
      try simp only [Act.put, sIa, sI0, sI1]
      have GNA := hHd (show a ≠ gt from fun e => by
       obtain ⟨cur, hb, _⟩ := R5.out.row
       rw [e] at hb
       exact hb.type_ne BT.out (by decide) rfl)
      have GNG := hHd (show g' ≠ gt from fun e => by
       have hb := BT.out
       rw [<- e] at hb
       exact R5.out.ch.not_cells hb)
      refine rd 12 (h := fun K hK => ?_)
      rw [if_pos (by rfl)]
      refine wp_store_part 39 (.tmp 8) (.tmp 35) rfl gt [] [.slice none 0 0, .map none] (rsV a c g' R4) [] rfl rfl BT.out rfl (infoRs _ _ _ _) (rsV_one _ _ _ _) ?_
      intro w6 hb6 hk6
      have k6 := KX.out.trans_new hk6 (fun q e => .inl (by have e : q = gt := e; have := HGT.out; omega))
      have R6 := hHd (R5.out.kp hk6 (fun e => GNA.out e) (fun e => GNG.out e))
      obtain ⟨F3, hF3⟩ : ∃ Fj, Thr F2 w2.heap.size w6.heap.size = Fj := ⟨_, rfl⟩
      have M3 := hHd (M2.out.thr k6)
      have S3 := hHd (S2.out.thr k6)
      rw [hF3] at M3 S3
      have SUB3 := hHd (show ∀ k, F3 k -> F k from fun k e => by rw [<- hF3] at e; exact SUB2.out k e.1)
      have OUT3 := hHd (show ∀ k, w2.heap.size <= k -> k < w6.heap.size -> ¬ F3 k from fun k h1 h2 e => by rw [<- hF3] at e; exact Thr.out h1 h2 e)
      have LE3 := hHd (show ∀ k, F3 k -> F2 k from fun k e => by rw [<- hF3] at e; exact e.1)
      clear hF3
      have M6 := hHd M3.out
      have S6 := hHd S3.out
      have NG := hHd (OUT3.out g' HGE.out R6.out.lt.2)
      have B6 := hHd (BF.out.kp k6 (fun e => e))
      have BX6 := hHd hb6
      have KK6 := hHd k6
      clear hb6 hk6 k6
      refine hK.out _ _ (trivial) (fun hHeld52 => ?_)
      clear hK K
      try simp only [Act.put]
      refine tk 13 (h := ?_)
      refine wpAnyH_done (by kernel_rfl) ?_ _
      clear hHeld KX
      go_upto_region 8 with (first | (refine wpList_load_mid rfl 39 (.tmp 8) rfl gt 0 rfl (rsV a c g' R4) _ (Box.range' BX6.out) Tryz.underlying39 rfl (infoRs _ _ _ _) ?_) | (refine wpList_store_part rfl 39 (.tmp 40) (.tmp 38) rfl gx [.pointer (some ⟨b, 0, none⟩), .pointer (some ⟨gs, 0, none⟩)] (rsV a c gq R2) (rsV a c g' R4) [.int .i64 (L : Int)] rfl rfl M6.out.x rfl (infoRs _ _ _ _) (rsV_one _ _ _ _) ?_; intro w7 hb7 hk7) | fail)
      have M7 := hHd (M6.out.told R6.out M6.out.fa NG.out hb7 hk7)
      have S7 := hHd (S6.out.off M6.out.fx hk7)
      have B7 := hHd (B6.out.kp hk7 (B6.out.type_ne M6.out.x (by decide)))
      have K7 := hHd ((K2.out.trans KK6.out.of_false).trans (hk7.mono fun k _ e => .inr e))
      have BA7 := hHd ((A2.out.kp KK6.out (fun e => e)).kp hk7 (A2.out.type_ne M2.out.x (by decide)))
      clear hb7 hk7
      have y := M7.out.cells.2.1
      try simp only [Act.put]
      go_wp2_with fail
      have hrd : Rd w7 (some ⟨gb, 0, none⟩) (fullL cc) := .inr ⟨gb, 0, rfl, fun j u hj => by
       rw [Nat.zero_add, B7.out.cell, List.getElem?_toArray]
       unfold bcs
       rw [List.getElem?_map, hj]
       rfl⟩
      have hput := pputs_any S7.out M7.out.new (i : Int) (some ⟨gb, 0, none⟩) (fullL cc) 512 hrd (fun ad e => by
       injection e with e
       rw [<- e]
       exact fun e => NB2.out (LE3.out _ e))
      rw [fullL_length, show sr.putS d (i : Int) (fullL cc) = ({ sr with dead := false, chg := sr.chg.put i (fullL cc) }, 0) from putS_yes STR.out i (fullL cc) HI1.out HI.out (fullL_length _)] at hput
      refine hput.mono ?_
      clear hput hrd y
      rintro e w8 ⟨rfl, hs8, hk8⟩
      have M8 := hHd (M7.out.kp hk8)
      have S8 := hHd hs8
      have K8 := hHd (K7.out.trans (hk8.mono fun k _ e => .inl (SUB3.out k e)))
      have BA8 := hHd (BA7.out.kp hk8 (fun e => NAR.out (LE2.out _ (LE3.out _ e))))
      clear hs8 hk8
      go_wp2_with fail
      go_roundw
      case rel =>
       refine ⟨i + 1, by omega, by omega, by go_num, F3, g', { sr with dead := false, chg := sr.chg.put i (fullL cc) }, R4, fun k e => SUB3.out k e, fun e => NAR.out (LE2.out _ (LE3.out _ e)), M8.out, S8.out, STR.out.put i (fullL cc) HI.out (fullL_length _), ?_, NTR.out, ?_, K8.out⟩
       ·rw [<- HR4.out]
        exact RLR.out.put i (fullL cc) HI1.out
       ·exact BA8.out
      case measure => simp [Go.RowKit.intOf]; omega
     ·go_simp
      obtain ⟨wn, hwn, kn, bn⟩ : ∃ wn, wn = (World.alloc (w2) (.cells #[.slice none 0 0, .map none] 39)).drew /\ Kp (fun _ => False) (w2) wn /\ Box wn (World.heap (w2)).size 39 #[.slice none 0 0, .map none] := ⟨_, rfl, ((Kp.refl _ _).alloc _).drew, Box.new _ _ _⟩
      rw [<- hwn]
      obtain ⟨gt, hgt⟩ : ∃ gt, (World.heap (w2)).size = gt := ⟨_, rfl⟩
      have HGT := hHd (show w2.heap.size <= gt by rw [<- hgt]; exact KX.out.size)
      rw [hgt] at bn
      try rw [hgt]
      try rw [show w2.heap.size = gt from hgt]
      have BT := hHd bn
      have KXN := hHd (kn)
      clear hwn kn bn hgt KX
      have KX := hHd KXN.out
      clear KXN
      refine hK.out _ _ (trivial) (fun hHeld57 => ?_)
      clear hK K
      try simp only [Act.put, sIa, sI0, sI1]
      refine rd 7 (h := fun K hK => ?_)
      go_simp
      have hcall := rput_yes (M2.out.rv.still KX.out) i HI1.out (by rw [RLR.out.len]; exact HI.out) (fullL cc) (fullL_length _)
      rw [HR4.out] at hcall
      refine hcall.mono ?_
      clear hcall
      rintro e w5 ⟨g', rfl, hr, hg', hk5⟩
      have KX5 := hHd (KX.out.trans hk5)
      have HGE := hHd (Nat.le_trans KX.out.size hg')
      have R5 := hHd hr
      have BT5 := hHd (BT.out.kp hk5 (fun e => e))
      clear BT
      have BT := hHd BT5.out
      clear BT5
      clear hr hg' hk5 KX
      have KX := hHd KX5.out
      clear KX5
      go_wp2_with fail
      refine hK.out _ _ (trivial) (fun hHeld55 => ?_)
      clear hK K
      try simp only [Act.put, sIa, sI0, sI1]
      refine tk 8 (h := ?_)
      refine tk 9 (h := ?_)
      refine tk 10 (h := ?_)
      have GNA := hHd (show a ≠ gt from fun e => by
       obtain ⟨cur, hb, _⟩ := R5.out.row
       rw [e] at hb
       exact hb.type_ne BT.out (by decide) rfl)
      have GNG := hHd (show g' ≠ gt from fun e => by
       have hb := BT.out
       rw [<- e] at hb
       exact R5.out.ch.not_cells hb)
      refine rd 12 (h := fun K hK => ?_)
      rw [if_pos (by rfl)]
      refine wp_store_part 39 (.tmp 8) (.tmp 35) rfl gt [] [.slice none 0 0, .map none] (rsV a c g' R4) [] rfl rfl BT.out rfl (infoRs _ _ _ _) (rsV_one _ _ _ _) ?_
      intro w6 hb6 hk6
      have k6 := KX.out.trans_new hk6 (fun q e => .inl (by have e : q = gt := e; have := HGT.out; omega))
      have R6 := hHd (R5.out.kp hk6 (fun e => GNA.out e) (fun e => GNG.out e))
      obtain ⟨F3, hF3⟩ : ∃ Fj, Thr F2 w2.heap.size w6.heap.size = Fj := ⟨_, rfl⟩
      have M3 := hHd (M2.out.thr k6)
      have S3 := hHd (S2.out.thr k6)
      rw [hF3] at M3 S3
      have SUB3 := hHd (show ∀ k, F3 k -> F k from fun k e => by rw [<- hF3] at e; exact SUB2.out k e.1)
      have OUT3 := hHd (show ∀ k, w2.heap.size <= k -> k < w6.heap.size -> ¬ F3 k from fun k h1 h2 e => by rw [<- hF3] at e; exact Thr.out h1 h2 e)
      have LE3 := hHd (show ∀ k, F3 k -> F2 k from fun k e => by rw [<- hF3] at e; exact e.1)
      clear hF3
      have M6 := hHd M3.out
      have S6 := hHd S3.out
      have NG := hHd (OUT3.out g' HGE.out R6.out.lt.2)
      have B6 := hHd (BF.out.kp k6 (fun e => e))
      have BX6 := hHd hb6
      have KK6 := hHd k6
      clear hb6 hk6 k6
      refine hK.out _ _ (trivial) (fun hHeld54 => ?_)
      clear hK K
      try simp only [Act.put]
      refine tk 13 (h := ?_)
      refine wpAnyH_done (by kernel_rfl) ?_ _
      clear hHeld KX
      go_upto_region 8 with (first | (refine wpList_load_mid rfl 39 (.tmp 8) rfl gt 0 rfl (rsV a c g' R4) _ (Box.range' BX6.out) Tryz.underlying39 rfl (infoRs _ _ _ _) ?_) | (refine wpList_store_part rfl 39 (.tmp 40) (.tmp 38) rfl gx [.pointer (some ⟨b, 0, none⟩), .pointer (some ⟨gs, 0, none⟩)] (rsV a c gq R2) (rsV a c g' R4) [.int .i64 (L : Int)] rfl rfl M6.out.x rfl (infoRs _ _ _ _) (rsV_one _ _ _ _) ?_; intro w7 hb7 hk7) | fail)
      have M7 := hHd (M6.out.told R6.out M6.out.fa NG.out hb7 hk7)
      have S7 := hHd (S6.out.off M6.out.fx hk7)
      have B7 := hHd (B6.out.kp hk7 (B6.out.type_ne M6.out.x (by decide)))
      have K7 := hHd ((K2.out.trans KK6.out.of_false).trans (hk7.mono fun k _ e => .inr e))
      have BA7 := hHd ((A2.out.kp KK6.out (fun e => e)).kp hk7 (A2.out.type_ne M2.out.x (by decide)))
      clear hb7 hk7
      have y := M7.out.cells.2.1
      try simp only [Act.put]
      go_wp2_with fail
      have hrd : Rd w7 (some ⟨gb, 0, none⟩) (fullL cc) := .inr ⟨gb, 0, rfl, fun j u hj => by
       rw [Nat.zero_add, B7.out.cell, List.getElem?_toArray]
       unfold bcs
       rw [List.getElem?_map, hj]
       rfl⟩
      have hput := pputs_any S7.out M7.out.new (i : Int) (some ⟨gb, 0, none⟩) (fullL cc) 512 hrd (fun ad e => by
       injection e with e
       rw [<- e]
       exact fun e => NB2.out (LE3.out _ e))
      rw [fullL_length, show sr.putS d (i : Int) (fullL cc) = ({ sr with dead := false, chg := sr.chg.put i (fullL cc) }, 0) from putS_yes STR.out i (fullL cc) HI1.out HI.out (fullL_length _)] at hput
      refine hput.mono ?_
      clear hput hrd y
      rintro e w8 ⟨rfl, hs8, hk8⟩
      have M8 := hHd (M7.out.kp hk8)
      have S8 := hHd hs8
      have K8 := hHd (K7.out.trans (hk8.mono fun k _ e => .inl (SUB3.out k e)))
      have BA8 := hHd (BA7.out.kp hk8 (fun e => NAR.out (LE2.out _ (LE3.out _ e))))
      clear hs8 hk8
      go_wp2_with fail
      go_roundw
      case rel =>
       refine ⟨i + 1, by omega, by omega, by go_num, F3, g', { sr with dead := false, chg := sr.chg.put i (fullL cc) }, R4, fun k e => SUB3.out k e, fun e => NAR.out (LE2.out _ (LE3.out _ e)), M8.out, S8.out, STR.out.put i (fullL cc) HI.out (fullL_length _), ?_, NTR.out, ?_, K8.out⟩
       ·rw [<- HR4.out]
        exact RLR.out.put i (fullL cc) HI1.out
       ·exact BA8.out
      case measure => simp [Go.RowKit.intOf]; omega
    ·go_simp
     obtain ⟨wn, hwn, kn, bn⟩ : ∃ wn, wn = (World.alloc (w2) (.cells #[.slice none 0 0, .map none] 39)).drew /\ Kp (fun _ => False) (w2) wn /\ Box wn (World.heap (w2)).size 39 #[.slice none 0 0, .map none] := ⟨_, rfl, ((Kp.refl _ _).alloc _).drew, Box.new _ _ _⟩
     rw [<- hwn]
     obtain ⟨gt, hgt⟩ : ∃ gt, (World.heap (w2)).size = gt := ⟨_, rfl⟩
     have HGT := hHd (show w2.heap.size <= gt by rw [<- hgt]; exact KX.out.size)
     rw [hgt] at bn
     try rw [hgt]
     try rw [show w2.heap.size = gt from hgt]
     have BT := hHd bn
     have KXN := hHd (kn)
     clear hwn kn bn hgt KX
     have KX := hHd KXN.out
     clear KXN
     refine hK.out _ _ (trivial) (fun hHeld62 => ?_)
     clear hK K
     try simp only [Act.put, sIa, sI0, sI1]
     refine rd 6 (h := fun K hK => ?_)
     have hrd : Rd w2 (some ⟨gb, 0, none⟩) (fullL cc) := .inr ⟨gb, 0, rfl, fun j u hj => by
      rw [Nat.zero_add, BF.out.cell, List.getElem?_toArray]
      unfold bcs
      rw [List.getElem?_map, hj]
      rfl⟩
     have ht := (hrd.kp KX.out (fun _ _ e => e)).text (P := Tryz.prog) 50 9 5 512 Tryz.underlying50 Tryz.underlying5 Tryz.underlying9
     rw [fullL_length] at ht
     go_simp
     clear ht hrd
     refine hK.out _ _ (trivial) (fun hHeld60 => ?_)
     clear hK K
     try simp only [Act.put, sIa, sI0, sI1]
     refine rd 7 (h := fun K hK => ?_)
     go_simp
     have hcall := rput_yes (M2.out.rv.still KX.out) i HI1.out (by rw [RLR.out.len]; exact HI.out) (fullL cc) (fullL_length _)
     rw [HR4.out] at hcall
     refine hcall.mono ?_
     clear hcall
     rintro e w5 ⟨g', rfl, hr, hg', hk5⟩
     have KX5 := hHd (KX.out.trans hk5)
     have HGE := hHd (Nat.le_trans KX.out.size hg')
     have R5 := hHd hr
     have BT5 := hHd (BT.out.kp hk5 (fun e => e))
     clear BT
     have BT := hHd BT5.out
     clear BT5
     clear hr hg' hk5 KX
     have KX := hHd KX5.out
     clear KX5
     go_wp2_with fail
     refine hK.out _ _ (trivial) (fun hHeld59 => ?_)
     clear hK K
     try simp only [Act.put, sIa, sI0, sI1]
     refine tk 8 (h := ?_)
     refine tk 9 (h := ?_)
     refine tk 10 (h := ?_)
     have GNA := hHd (show a ≠ gt from fun e => by
      obtain ⟨cur, hb, _⟩ := R5.out.row
      rw [e] at hb
      exact hb.type_ne BT.out (by decide) rfl)
     have GNG := hHd (show g' ≠ gt from fun e => by
      have hb := BT.out
      rw [<- e] at hb
      exact R5.out.ch.not_cells hb)
     refine rd 12 (h := fun K hK => ?_)
     rw [if_pos (by rfl)]
     refine wp_store_part 39 (.tmp 8) (.tmp 35) rfl gt [] [.slice none 0 0, .map none] (rsV a c g' R4) [] rfl rfl BT.out rfl (infoRs _ _ _ _) (rsV_one _ _ _ _) ?_
     intro w6 hb6 hk6
     have k6 := KX.out.trans_new hk6 (fun q e => .inl (by have e : q = gt := e; have := HGT.out; omega))
     have R6 := hHd (R5.out.kp hk6 (fun e => GNA.out e) (fun e => GNG.out e))
     obtain ⟨F3, hF3⟩ : ∃ Fj, Thr F2 w2.heap.size w6.heap.size = Fj := ⟨_, rfl⟩
     have M3 := hHd (M2.out.thr k6)
     have S3 := hHd (S2.out.thr k6)
     rw [hF3] at M3 S3
     have SUB3 := hHd (show ∀ k, F3 k -> F k from fun k e => by rw [<- hF3] at e; exact SUB2.out k e.1)
     have OUT3 := hHd (show ∀ k, w2.heap.size <= k -> k < w6.heap.size -> ¬ F3 k from fun k h1 h2 e => by rw [<- hF3] at e; exact Thr.out h1 h2 e)
     have LE3 := hHd (show ∀ k, F3 k -> F2 k from fun k e => by rw [<- hF3] at e; exact e.1)
     clear hF3
     have M6 := hHd M3.out
     have S6 := hHd S3.out
     have NG := hHd (OUT3.out g' HGE.out R6.out.lt.2)
     have B6 := hHd (BF.out.kp k6 (fun e => e))
     have BX6 := hHd hb6
     have KK6 := hHd k6
     clear hb6 hk6 k6
     refine hK.out _ _ (trivial) (fun hHeld58 => ?_)
     clear hK K
     try simp only [Act.put]
     refine tk 13 (h := ?_)
     refine wpAnyH_done (by kernel_rfl) ?_ _
     clear hHeld KX
     go_upto_region 8 with (first | (refine wpList_load_mid rfl 39 (.tmp 8) rfl gt 0 rfl (rsV a c g' R4) _ (Box.range' BX6.out) Tryz.underlying39 rfl (infoRs _ _ _ _) ?_) | (refine wpList_store_part rfl 39 (.tmp 40) (.tmp 38) rfl gx [.pointer (some ⟨b, 0, none⟩), .pointer (some ⟨gs, 0, none⟩)] (rsV a c gq R2) (rsV a c g' R4) [.int .i64 (L : Int)] rfl rfl M6.out.x rfl (infoRs _ _ _ _) (rsV_one _ _ _ _) ?_; intro w7 hb7 hk7) | fail)
     have M7 := hHd (M6.out.told R6.out M6.out.fa NG.out hb7 hk7)
     have S7 := hHd (S6.out.off M6.out.fx hk7)
     have B7 := hHd (B6.out.kp hk7 (B6.out.type_ne M6.out.x (by decide)))
     have K7 := hHd ((K2.out.trans KK6.out.of_false).trans (hk7.mono fun k _ e => .inr e))
     have BA7 := hHd ((A2.out.kp KK6.out (fun e => e)).kp hk7 (A2.out.type_ne M2.out.x (by decide)))
     clear hb7 hk7
     have y := M7.out.cells.2.1
     try simp only [Act.put]
     go_wp2_with fail
     have hrd : Rd w7 (some ⟨gb, 0, none⟩) (fullL cc) := .inr ⟨gb, 0, rfl, fun j u hj => by
      rw [Nat.zero_add, B7.out.cell, List.getElem?_toArray]
      unfold bcs
      rw [List.getElem?_map, hj]
      rfl⟩
     have hput := pputs_any S7.out M7.out.new (i : Int) (some ⟨gb, 0, none⟩) (fullL cc) 512 hrd (fun ad e => by
      injection e with e
      rw [<- e]
      exact fun e => NB2.out (LE3.out _ e))
     rw [fullL_length, show sr.putS d (i : Int) (fullL cc) = ({ sr with dead := false, chg := sr.chg.put i (fullL cc) }, 0) from putS_yes STR.out i (fullL cc) HI1.out HI.out (fullL_length _)] at hput
     refine hput.mono ?_
     clear hput hrd y
     rintro e w8 ⟨rfl, hs8, hk8⟩
     have M8 := hHd (M7.out.kp hk8)
     have S8 := hHd hs8
     have K8 := hHd (K7.out.trans (hk8.mono fun k _ e => .inl (SUB3.out k e)))
     have BA8 := hHd (BA7.out.kp hk8 (fun e => NAR.out (LE2.out _ (LE3.out _ e))))
     clear hs8 hk8
     go_wp2_with fail
     go_roundw
     case rel =>
      refine ⟨i + 1, by omega, by omega, by go_num, F3, g', { sr with dead := false, chg := sr.chg.put i (fullL cc) }, R4, fun k e => SUB3.out k e, fun e => NAR.out (LE2.out _ (LE3.out _ e)), M8.out, S8.out, STR.out.put i (fullL cc) HI.out (fullL_length _), ?_, NTR.out, ?_, K8.out⟩
      ·rw [<- HR4.out]
       exact RLR.out.put i (fullL cc) HI1.out
      ·exact BA8.out
     case measure => simp [Go.RowKit.intOf]; omega
   ·have hrd : Rd w2 (some ⟨gb, 0, none⟩) (fullL cc) := .inr ⟨gb, 0, rfl, fun j u hj => by
     rw [Nat.zero_add, BF.out.cell, List.getElem?_toArray]
     unfold bcs
     rw [List.getElem?_map, hj]
     rfl⟩
    have ht := (hrd.kp KX.out (fun _ _ e => e)).text (P := Tryz.prog) 50 9 5 512 Tryz.underlying50 Tryz.underlying5 Tryz.underlying9
    rw [fullL_length] at ht
    go_simp
    clear ht hrd
    refine hK.out _ _ (trivial) (fun hHeld83 => ?_)
    clear hK K
    try simp only [Act.put, sIa, sI0, sI1]
    refine wpAnyH_ready (rs := [3, 11]) (by kernel_rfl) (by simp) ?_
    refine rdc 3 (h := fun K hK => ?_) (hs := rdc 11 (h := fun K hK => ?_) (hs := AllReadyH.nil))
    ·rw [if_pos (by rfl)]
     refine wp_load_mid 39 (.tmp 29) rfl gx 2 rfl (rsV a c gq R2) _ (M2.out.still KX.out).rs Tryz.underlying39 rfl (infoRs _ _ _ _) ?_
     refine hK.out _ _ (trivial) (fun hHeld72 => ?_)
     clear hK K
     try simp only [Act.put, sIa, sI0, sI1]
     refine wpAnyH_ready (rs := [7, 11]) (by kernel_rfl) (by simp) ?_
     refine rdc 7 (h := fun K hK => ?_) (hs := rdc 11 (h := fun K hK => ?_) (hs := AllReadyH.nil))
     ·go_simp
      have hcall := rput_yes (M2.out.rv.still KX.out) i HI1.out (by rw [RLR.out.len]; exact HI.out) (fullL cc) (fullL_length _)
      rw [HR4.out] at hcall
      refine hcall.mono ?_
      clear hcall
      rintro e w5 ⟨g', rfl, hr, hg', hk5⟩
      have KX5 := hHd (KX.out.trans hk5)
      have HGE := hHd (Nat.le_trans KX.out.size hg')
      have R5 := hHd hr
      clear hr hg' hk5 KX
      have KX := hHd KX5.out
      clear KX5
      go_wp2_with fail
      refine hK.out _ _ (trivial) (fun hHeld67 => ?_)
      clear hK K
      try simp only [Act.put, sIa, sI0, sI1]
      refine tk 8 (h := ?_)
      refine tk 9 (h := ?_)
      refine tk 10 (h := ?_)
      refine rd 11 (h := fun K hK => ?_)
      go_simp
      obtain ⟨wn, hwn, kn, bn⟩ : ∃ wn, wn = (World.alloc (w5) (.cells #[.slice none 0 0, .map none] 39)) /\ Kp (fun _ => False) (w5) wn /\ Box wn (World.heap (w5)).size 39 #[.slice none 0 0, .map none] := ⟨_, rfl, ((Kp.refl _ _).alloc _), Box.new _ _ _⟩
      rw [<- hwn]
      obtain ⟨gt, hgt⟩ : ∃ gt, (World.heap (w5)).size = gt := ⟨_, rfl⟩
      have HGT := hHd (show w2.heap.size <= gt by rw [<- hgt]; exact KX.out.size)
      rw [hgt] at bn
      try rw [hgt]
      try rw [show w2.heap.size = gt from hgt]
      have BT := hHd bn
      have KXN := hHd (KX.out.trans kn)
      have R5N := hHd (R5.out.still kn)
      clear R5
      have R5 := hHd R5N.out
      clear R5N
      clear hwn kn bn hgt KX
      have KX := hHd KXN.out
      clear KXN
      refine hK.out _ _ (trivial) (fun hHeld64 => ?_)
      clear hK K
      try simp only [Act.put, sIa, sI0, sI1]
      have GNA := hHd (show a ≠ gt from fun e => by
       obtain ⟨cur, hb, _⟩ := R5.out.row
       rw [e] at hb
       exact hb.type_ne BT.out (by decide) rfl)
      have GNG := hHd (show g' ≠ gt from fun e => by
       have hb := BT.out
       rw [<- e] at hb
       exact R5.out.ch.not_cells hb)
      refine rd 12 (h := fun K hK => ?_)
      rw [if_pos (by rfl)]
      refine wp_store_part 39 (.tmp 8) (.tmp 35) rfl gt [] [.slice none 0 0, .map none] (rsV a c g' R4) [] rfl rfl BT.out rfl (infoRs _ _ _ _) (rsV_one _ _ _ _) ?_
      intro w6 hb6 hk6
      have k6 := KX.out.trans_new hk6 (fun q e => .inl (by have e : q = gt := e; have := HGT.out; omega))
      have R6 := hHd (R5.out.kp hk6 (fun e => GNA.out e) (fun e => GNG.out e))
      obtain ⟨F3, hF3⟩ : ∃ Fj, Thr F2 w2.heap.size w6.heap.size = Fj := ⟨_, rfl⟩
      have M3 := hHd (M2.out.thr k6)
      have S3 := hHd (S2.out.thr k6)
      rw [hF3] at M3 S3
      have SUB3 := hHd (show ∀ k, F3 k -> F k from fun k e => by rw [<- hF3] at e; exact SUB2.out k e.1)
      have OUT3 := hHd (show ∀ k, w2.heap.size <= k -> k < w6.heap.size -> ¬ F3 k from fun k h1 h2 e => by rw [<- hF3] at e; exact Thr.out h1 h2 e)
      have LE3 := hHd (show ∀ k, F3 k -> F2 k from fun k e => by rw [<- hF3] at e; exact e.1)
      clear hF3
      have M6 := hHd M3.out
      have S6 := hHd S3.out
      have NG := hHd (OUT3.out g' HGE.out R6.out.lt.2)
      have B6 := hHd (BF.out.kp k6 (fun e => e))
      have BX6 := hHd hb6
      have KK6 := hHd k6
      clear hb6 hk6 k6
      refine hK.out _ _ (trivial) (fun hHeld63 => ?_)
      clear hK K
      try simp only [Act.put]
      refine tk 13 (h := ?_)
      refine wpAnyH_done (by kernel_rfl) ?_ _
      clear hHeld KX
      go_upto_region 8 with (first | (refine wpList_load_mid rfl 39 (.tmp 8) rfl gt 0 rfl (rsV a c g' R4) _ (Box.range' BX6.out) Tryz.underlying39 rfl (infoRs _ _ _ _) ?_) | (refine wpList_store_part rfl 39 (.tmp 40) (.tmp 38) rfl gx [.pointer (some ⟨b, 0, none⟩), .pointer (some ⟨gs, 0, none⟩)] (rsV a c gq R2) (rsV a c g' R4) [.int .i64 (L : Int)] rfl rfl M6.out.x rfl (infoRs _ _ _ _) (rsV_one _ _ _ _) ?_; intro w7 hb7 hk7) | fail)
      have M7 := hHd (M6.out.told R6.out M6.out.fa NG.out hb7 hk7)
      have S7 := hHd (S6.out.off M6.out.fx hk7)
      have B7 := hHd (B6.out.kp hk7 (B6.out.type_ne M6.out.x (by decide)))
      have K7 := hHd ((K2.out.trans KK6.out.of_false).trans (hk7.mono fun k _ e => .inr e))
      have BA7 := hHd ((A2.out.kp KK6.out (fun e => e)).kp hk7 (A2.out.type_ne M2.out.x (by decide)))
      clear hb7 hk7
      have y := M7.out.cells.2.1
      try simp only [Act.put]
      go_wp2_with fail
      have hrd : Rd w7 (some ⟨gb, 0, none⟩) (fullL cc) := .inr ⟨gb, 0, rfl, fun j u hj => by
       rw [Nat.zero_add, B7.out.cell, List.getElem?_toArray]
       unfold bcs
       rw [List.getElem?_map, hj]
       rfl⟩
      have hput := pputs_any S7.out M7.out.new (i : Int) (some ⟨gb, 0, none⟩) (fullL cc) 512 hrd (fun ad e => by
       injection e with e
       rw [<- e]
       exact fun e => NB2.out (LE3.out _ e))
      rw [fullL_length, show sr.putS d (i : Int) (fullL cc) = ({ sr with dead := false, chg := sr.chg.put i (fullL cc) }, 0) from putS_yes STR.out i (fullL cc) HI1.out HI.out (fullL_length _)] at hput
      refine hput.mono ?_
      clear hput hrd y
      rintro e w8 ⟨rfl, hs8, hk8⟩
      have M8 := hHd (M7.out.kp hk8)
      have S8 := hHd hs8
      have K8 := hHd (K7.out.trans (hk8.mono fun k _ e => .inl (SUB3.out k e)))
      have BA8 := hHd (BA7.out.kp hk8 (fun e => NAR.out (LE2.out _ (LE3.out _ e))))
      clear hs8 hk8
      go_wp2_with fail
      go_roundw
      case rel =>
       refine ⟨i + 1, by omega, by omega, by go_num, F3, g', { sr with dead := false, chg := sr.chg.put i (fullL cc) }, R4, fun k e => SUB3.out k e, fun e => NAR.out (LE2.out _ (LE3.out _ e)), M8.out, S8.out, STR.out.put i (fullL cc) HI.out (fullL_length _), ?_, NTR.out, ?_, K8.out⟩
       ·rw [<- HR4.out]
        exact RLR.out.put i (fullL cc) HI1.out
       ·exact BA8.out
      case measure => simp [Go.RowKit.intOf]; omega
     ·go_simp
      obtain ⟨wn, hwn, kn, bn⟩ : ∃ wn, wn = (World.alloc (w2) (.cells #[.slice none 0 0, .map none] 39)).drew /\ Kp (fun _ => False) (w2) wn /\ Box wn (World.heap (w2)).size 39 #[.slice none 0 0, .map none] := ⟨_, rfl, ((Kp.refl _ _).alloc _).drew, Box.new _ _ _⟩
      rw [<- hwn]
      obtain ⟨gt, hgt⟩ : ∃ gt, (World.heap (w2)).size = gt := ⟨_, rfl⟩
      have HGT := hHd (show w2.heap.size <= gt by rw [<- hgt]; exact KX.out.size)
      rw [hgt] at bn
      try rw [hgt]
      try rw [show w2.heap.size = gt from hgt]
      have BT := hHd bn
      have KXN := hHd (kn)
      clear hwn kn bn hgt KX
      have KX := hHd KXN.out
      clear KXN
      refine hK.out _ _ (trivial) (fun hHeld68 => ?_)
      clear hK K
      try simp only [Act.put, sIa, sI0, sI1]
      refine rd 7 (h := fun K hK => ?_)
      go_simp
      have hcall := rput_yes (M2.out.rv.still KX.out) i HI1.out (by rw [RLR.out.len]; exact HI.out) (fullL cc) (fullL_length _)
      rw [HR4.out] at hcall
      refine hcall.mono ?_
      clear hcall
      rintro e w5 ⟨g', rfl, hr, hg', hk5⟩
      have KX5 := hHd (KX.out.trans hk5)
      have HGE := hHd (Nat.le_trans KX.out.size hg')
      have R5 := hHd hr
      have BT5 := hHd (BT.out.kp hk5 (fun e => e))
      clear BT
      have BT := hHd BT5.out
      clear BT5
      clear hr hg' hk5 KX
      have KX := hHd KX5.out
      clear KX5
      go_wp2_with fail
      refine hK.out _ _ (trivial) (fun hHeld66 => ?_)
      clear hK K
      try simp only [Act.put, sIa, sI0, sI1]
      refine tk 8 (h := ?_)
      refine tk 9 (h := ?_)
      refine tk 10 (h := ?_)
      have GNA := hHd (show a ≠ gt from fun e => by
       obtain ⟨cur, hb, _⟩ := R5.out.row
       rw [e] at hb
       exact hb.type_ne BT.out (by decide) rfl)
      have GNG := hHd (show g' ≠ gt from fun e => by
       have hb := BT.out
       rw [<- e] at hb
       exact R5.out.ch.not_cells hb)
      refine rd 12 (h := fun K hK => ?_)
      rw [if_pos (by rfl)]
      refine wp_store_part 39 (.tmp 8) (.tmp 35) rfl gt [] [.slice none 0 0, .map none] (rsV a c g' R4) [] rfl rfl BT.out rfl (infoRs _ _ _ _) (rsV_one _ _ _ _) ?_
      intro w6 hb6 hk6
      have k6 := KX.out.trans_new hk6 (fun q e => .inl (by have e : q = gt := e; have := HGT.out; omega))
      have R6 := hHd (R5.out.kp hk6 (fun e => GNA.out e) (fun e => GNG.out e))
      obtain ⟨F3, hF3⟩ : ∃ Fj, Thr F2 w2.heap.size w6.heap.size = Fj := ⟨_, rfl⟩
      have M3 := hHd (M2.out.thr k6)
      have S3 := hHd (S2.out.thr k6)
      rw [hF3] at M3 S3
      have SUB3 := hHd (show ∀ k, F3 k -> F k from fun k e => by rw [<- hF3] at e; exact SUB2.out k e.1)
      have OUT3 := hHd (show ∀ k, w2.heap.size <= k -> k < w6.heap.size -> ¬ F3 k from fun k h1 h2 e => by rw [<- hF3] at e; exact Thr.out h1 h2 e)
      have LE3 := hHd (show ∀ k, F3 k -> F2 k from fun k e => by rw [<- hF3] at e; exact e.1)
      clear hF3
      have M6 := hHd M3.out
      have S6 := hHd S3.out
      have NG := hHd (OUT3.out g' HGE.out R6.out.lt.2)
      have B6 := hHd (BF.out.kp k6 (fun e => e))
      have BX6 := hHd hb6
      have KK6 := hHd k6
      clear hb6 hk6 k6
      refine hK.out _ _ (trivial) (fun hHeld65 => ?_)
      clear hK K
      try simp only [Act.put]
      refine tk 13 (h := ?_)
      refine wpAnyH_done (by kernel_rfl) ?_ _
      clear hHeld KX
      go_upto_region 8 with (first | (refine wpList_load_mid rfl 39 (.tmp 8) rfl gt 0 rfl (rsV a c g' R4) _ (Box.range' BX6.out) Tryz.underlying39 rfl (infoRs _ _ _ _) ?_) | (refine wpList_store_part rfl 39 (.tmp 40) (.tmp 38) rfl gx [.pointer (some ⟨b, 0, none⟩), .pointer (some ⟨gs, 0, none⟩)] (rsV a c gq R2) (rsV a c g' R4) [.int .i64 (L : Int)] rfl rfl M6.out.x rfl (infoRs _ _ _ _) (rsV_one _ _ _ _) ?_; intro w7 hb7 hk7) | fail)
      have M7 := hHd (M6.out.told R6.out M6.out.fa NG.out hb7 hk7)
      have S7 := hHd (S6.out.off M6.out.fx hk7)
      have B7 := hHd (B6.out.kp hk7 (B6.out.type_ne M6.out.x (by decide)))
      have K7 := hHd ((K2.out.trans KK6.out.of_false).trans (hk7.mono fun k _ e => .inr e))
      have BA7 := hHd ((A2.out.kp KK6.out (fun e => e)).kp hk7 (A2.out.type_ne M2.out.x (by decide)))
      clear hb7 hk7
      have y := M7.out.cells.2.1
      try simp only [Act.put]
      go_wp2_with fail
      have hrd : Rd w7 (some ⟨gb, 0, none⟩) (fullL cc) := .inr ⟨gb, 0, rfl, fun j u hj => by
       rw [Nat.zero_add, B7.out.cell, List.getElem?_toArray]
       unfold bcs
       rw [List.getElem?_map, hj]
       rfl⟩
      have hput := pputs_any S7.out M7.out.new (i : Int) (some ⟨gb, 0, none⟩) (fullL cc) 512 hrd (fun ad e => by
       injection e with e
       rw [<- e]
       exact fun e => NB2.out (LE3.out _ e))
      rw [fullL_length, show sr.putS d (i : Int) (fullL cc) = ({ sr with dead := false, chg := sr.chg.put i (fullL cc) }, 0) from putS_yes STR.out i (fullL cc) HI1.out HI.out (fullL_length _)] at hput
      refine hput.mono ?_
      clear hput hrd y
      rintro e w8 ⟨rfl, hs8, hk8⟩
      have M8 := hHd (M7.out.kp hk8)
      have S8 := hHd hs8
      have K8 := hHd (K7.out.trans (hk8.mono fun k _ e => .inl (SUB3.out k e)))
      have BA8 := hHd (BA7.out.kp hk8 (fun e => NAR.out (LE2.out _ (LE3.out _ e))))
      clear hs8 hk8
      go_wp2_with fail
      go_roundw
      case rel =>
       refine ⟨i + 1, by omega, by omega, by go_num, F3, g', { sr with dead := false, chg := sr.chg.put i (fullL cc) }, R4, fun k e => SUB3.out k e, fun e => NAR.out (LE2.out _ (LE3.out _ e)), M8.out, S8.out, STR.out.put i (fullL cc) HI.out (fullL_length _), ?_, NTR.out, ?_, K8.out⟩
       ·rw [<- HR4.out]
        exact RLR.out.put i (fullL cc) HI1.out
       ·exact BA8.out
      case measure => simp [Go.RowKit.intOf]; omega
    ·go_simp
     obtain ⟨wn, hwn, kn, bn⟩ : ∃ wn, wn = (World.alloc (w2) (.cells #[.slice none 0 0, .map none] 39)).drew /\ Kp (fun _ => False) (w2) wn /\ Box wn (World.heap (w2)).size 39 #[.slice none 0 0, .map none] := ⟨_, rfl, ((Kp.refl _ _).alloc _).drew, Box.new _ _ _⟩
     rw [<- hwn]
     obtain ⟨gt, hgt⟩ : ∃ gt, (World.heap (w2)).size = gt := ⟨_, rfl⟩
     have HGT := hHd (show w2.heap.size <= gt by rw [<- hgt]; exact KX.out.size)
     rw [hgt] at bn
     try rw [hgt]
     try rw [show w2.heap.size = gt from hgt]
     have BT := hHd bn
     have KXN := hHd (kn)
     clear hwn kn bn hgt KX
     have KX := hHd KXN.out
     clear KXN
     refine hK.out _ _ (trivial) (fun hHeld73 => ?_)
     clear hK K
     try simp only [Act.put, sIa, sI0, sI1]
     refine rd 3 (h := fun K hK => ?_)
     rw [if_pos (by rfl)]
     refine wp_load_mid 39 (.tmp 29) rfl gx 2 rfl (rsV a c gq R2) _ (M2.out.still KX.out).rs Tryz.underlying39 rfl (infoRs _ _ _ _) ?_
     refine hK.out _ _ (trivial) (fun hHeld71 => ?_)
     clear hK K
     try simp only [Act.put, sIa, sI0, sI1]
     refine rd 7 (h := fun K hK => ?_)
     go_simp
     have hcall := rput_yes (M2.out.rv.still KX.out) i HI1.out (by rw [RLR.out.len]; exact HI.out) (fullL cc) (fullL_length _)
     rw [HR4.out] at hcall
     refine hcall.mono ?_
     clear hcall
     rintro e w5 ⟨g', rfl, hr, hg', hk5⟩
     have KX5 := hHd (KX.out.trans hk5)
     have HGE := hHd (Nat.le_trans KX.out.size hg')
     have R5 := hHd hr
     have BT5 := hHd (BT.out.kp hk5 (fun e => e))
     clear BT
     have BT := hHd BT5.out
     clear BT5
     clear hr hg' hk5 KX
     have KX := hHd KX5.out
     clear KX5
     go_wp2_with fail
     refine hK.out _ _ (trivial) (fun hHeld70 => ?_)
     clear hK K
     try simp only [Act.put, sIa, sI0, sI1]
     refine tk 8 (h := ?_)
     refine tk 9 (h := ?_)
     refine tk 10 (h := ?_)
     have GNA := hHd (show a ≠ gt from fun e => by
      obtain ⟨cur, hb, _⟩ := R5.out.row
      rw [e] at hb
      exact hb.type_ne BT.out (by decide) rfl)
     have GNG := hHd (show g' ≠ gt from fun e => by
      have hb := BT.out
      rw [<- e] at hb
      exact R5.out.ch.not_cells hb)
     refine rd 12 (h := fun K hK => ?_)
     rw [if_pos (by rfl)]
     refine wp_store_part 39 (.tmp 8) (.tmp 35) rfl gt [] [.slice none 0 0, .map none] (rsV a c g' R4) [] rfl rfl BT.out rfl (infoRs _ _ _ _) (rsV_one _ _ _ _) ?_
     intro w6 hb6 hk6
     have k6 := KX.out.trans_new hk6 (fun q e => .inl (by have e : q = gt := e; have := HGT.out; omega))
     have R6 := hHd (R5.out.kp hk6 (fun e => GNA.out e) (fun e => GNG.out e))
     obtain ⟨F3, hF3⟩ : ∃ Fj, Thr F2 w2.heap.size w6.heap.size = Fj := ⟨_, rfl⟩
     have M3 := hHd (M2.out.thr k6)
     have S3 := hHd (S2.out.thr k6)
     rw [hF3] at M3 S3
     have SUB3 := hHd (show ∀ k, F3 k -> F k from fun k e => by rw [<- hF3] at e; exact SUB2.out k e.1)
     have OUT3 := hHd (show ∀ k, w2.heap.size <= k -> k < w6.heap.size -> ¬ F3 k from fun k h1 h2 e => by rw [<- hF3] at e; exact Thr.out h1 h2 e)
     have LE3 := hHd (show ∀ k, F3 k -> F2 k from fun k e => by rw [<- hF3] at e; exact e.1)
     clear hF3
     have M6 := hHd M3.out
     have S6 := hHd S3.out
     have NG := hHd (OUT3.out g' HGE.out R6.out.lt.2)
     have B6 := hHd (BF.out.kp k6 (fun e => e))
     have BX6 := hHd hb6
     have KK6 := hHd k6
     clear hb6 hk6 k6
     refine hK.out _ _ (trivial) (fun hHeld69 => ?_)
     clear hK K
     try simp only [Act.put]
     refine tk 13 (h := ?_)
     refine wpAnyH_done (by kernel_rfl) ?_ _
     clear hHeld KX
     go_upto_region 8 with (first | (refine wpList_load_mid rfl 39 (.tmp 8) rfl gt 0 rfl (rsV a c g' R4) _ (Box.range' BX6.out) Tryz.underlying39 rfl (infoRs _ _ _ _) ?_) | (refine wpList_store_part rfl 39 (.tmp 40) (.tmp 38) rfl gx [.pointer (some ⟨b, 0, none⟩), .pointer (some ⟨gs, 0, none⟩)] (rsV a c gq R2) (rsV a c g' R4) [.int .i64 (L : Int)] rfl rfl M6.out.x rfl (infoRs _ _ _ _) (rsV_one _ _ _ _) ?_; intro w7 hb7 hk7) | fail)
     have M7 := hHd (M6.out.told R6.out M6.out.fa NG.out hb7 hk7)
     have S7 := hHd (S6.out.off M6.out.fx hk7)
     have B7 := hHd (B6.out.kp hk7 (B6.out.type_ne M6.out.x (by decide)))
     have K7 := hHd ((K2.out.trans KK6.out.of_false).trans (hk7.mono fun k _ e => .inr e))
     have BA7 := hHd ((A2.out.kp KK6.out (fun e => e)).kp hk7 (A2.out.type_ne M2.out.x (by decide)))
     clear hb7 hk7
     have y := M7.out.cells.2.1
     try simp only [Act.put]
     go_wp2_with fail
     have hrd : Rd w7 (some ⟨gb, 0, none⟩) (fullL cc) := .inr ⟨gb, 0, rfl, fun j u hj => by
      rw [Nat.zero_add, B7.out.cell, List.getElem?_toArray]
      unfold bcs
      rw [List.getElem?_map, hj]
      rfl⟩
     have hput := pputs_any S7.out M7.out.new (i : Int) (some ⟨gb, 0, none⟩) (fullL cc) 512 hrd (fun ad e => by
      injection e with e
      rw [<- e]
      exact fun e => NB2.out (LE3.out _ e))
     rw [fullL_length, show sr.putS d (i : Int) (fullL cc) = ({ sr with dead := false, chg := sr.chg.put i (fullL cc) }, 0) from putS_yes STR.out i (fullL cc) HI1.out HI.out (fullL_length _)] at hput
     refine hput.mono ?_
     clear hput hrd y
     rintro e w8 ⟨rfl, hs8, hk8⟩
     have M8 := hHd (M7.out.kp hk8)
     have S8 := hHd hs8
     have K8 := hHd (K7.out.trans (hk8.mono fun k _ e => .inl (SUB3.out k e)))
     have BA8 := hHd (BA7.out.kp hk8 (fun e => NAR.out (LE2.out _ (LE3.out _ e))))
     clear hs8 hk8
     go_wp2_with fail
     go_roundw
     case rel =>
      refine ⟨i + 1, by omega, by omega, by go_num, F3, g', { sr with dead := false, chg := sr.chg.put i (fullL cc) }, R4, fun k e => SUB3.out k e, fun e => NAR.out (LE2.out _ (LE3.out _ e)), M8.out, S8.out, STR.out.put i (fullL cc) HI.out (fullL_length _), ?_, NTR.out, ?_, K8.out⟩
      ·rw [<- HR4.out]
       exact RLR.out.put i (fullL cc) HI1.out
      ·exact BA8.out
     case measure => simp [Go.RowKit.intOf]; omega
   ·go_simp
    obtain ⟨wn, hwn, kn, bn⟩ : ∃ wn, wn = (World.alloc (w2) (.cells #[.slice none 0 0, .map none] 39)).drew /\ Kp (fun _ => False) (w2) wn /\ Box wn (World.heap (w2)).size 39 #[.slice none 0 0, .map none] := ⟨_, rfl, ((Kp.refl _ _).alloc _).drew, Box.new _ _ _⟩
    rw [<- hwn]
    obtain ⟨gt, hgt⟩ : ∃ gt, (World.heap (w2)).size = gt := ⟨_, rfl⟩
    have HGT := hHd (show w2.heap.size <= gt by rw [<- hgt]; exact KX.out.size)
    rw [hgt] at bn
    try rw [hgt]
    try rw [show w2.heap.size = gt from hgt]
    have BT := hHd bn
    have KXN := hHd (kn)
    clear hwn kn bn hgt KX
    have KX := hHd KXN.out
    clear KXN
    refine hK.out _ _ (trivial) (fun hHeld84 => ?_)
    clear hK K
    try simp only [Act.put, sIa, sI0, sI1]
    refine wpAnyH_ready (rs := [3, 6]) (by kernel_rfl) (by simp) ?_
    refine rdc 3 (h := fun K hK => ?_) (hs := rdc 6 (h := fun K hK => ?_) (hs := AllReadyH.nil))
    ·rw [if_pos (by rfl)]
     refine wp_load_mid 39 (.tmp 29) rfl gx 2 rfl (rsV a c gq R2) _ (M2.out.still KX.out).rs Tryz.underlying39 rfl (infoRs _ _ _ _) ?_
     refine hK.out _ _ (trivial) (fun hHeld80 => ?_)
     clear hK K
     try simp only [Act.put, sIa, sI0, sI1]
     refine rd 6 (h := fun K hK => ?_)
     have hrd : Rd w2 (some ⟨gb, 0, none⟩) (fullL cc) := .inr ⟨gb, 0, rfl, fun j u hj => by
      rw [Nat.zero_add, BF.out.cell, List.getElem?_toArray]
      unfold bcs
      rw [List.getElem?_map, hj]
      rfl⟩
     have ht := (hrd.kp KX.out (fun _ _ e => e)).text (P := Tryz.prog) 50 9 5 512 Tryz.underlying50 Tryz.underlying5 Tryz.underlying9
     rw [fullL_length] at ht
     go_simp
     clear ht hrd
     refine hK.out _ _ (trivial) (fun hHeld76 => ?_)
     clear hK K
     try simp only [Act.put, sIa, sI0, sI1]
     refine rd 7 (h := fun K hK => ?_)
     go_simp
     have hcall := rput_yes (M2.out.rv.still KX.out) i HI1.out (by rw [RLR.out.len]; exact HI.out) (fullL cc) (fullL_length _)
     rw [HR4.out] at hcall
     refine hcall.mono ?_
     clear hcall
     rintro e w5 ⟨g', rfl, hr, hg', hk5⟩
     have KX5 := hHd (KX.out.trans hk5)
     have HGE := hHd (Nat.le_trans KX.out.size hg')
     have R5 := hHd hr
     have BT5 := hHd (BT.out.kp hk5 (fun e => e))
     clear BT
     have BT := hHd BT5.out
     clear BT5
     clear hr hg' hk5 KX
     have KX := hHd KX5.out
     clear KX5
     go_wp2_with fail
     refine hK.out _ _ (trivial) (fun hHeld75 => ?_)
     clear hK K
     try simp only [Act.put, sIa, sI0, sI1]
     refine tk 8 (h := ?_)
     refine tk 9 (h := ?_)
     refine tk 10 (h := ?_)
     have GNA := hHd (show a ≠ gt from fun e => by
      obtain ⟨cur, hb, _⟩ := R5.out.row
      rw [e] at hb
      exact hb.type_ne BT.out (by decide) rfl)
     have GNG := hHd (show g' ≠ gt from fun e => by
      have hb := BT.out
      rw [<- e] at hb
      exact R5.out.ch.not_cells hb)
     refine rd 12 (h := fun K hK => ?_)
     rw [if_pos (by rfl)]
     refine wp_store_part 39 (.tmp 8) (.tmp 35) rfl gt [] [.slice none 0 0, .map none] (rsV a c g' R4) [] rfl rfl BT.out rfl (infoRs _ _ _ _) (rsV_one _ _ _ _) ?_
     intro w6 hb6 hk6
     have k6 := KX.out.trans_new hk6 (fun q e => .inl (by have e : q = gt := e; have := HGT.out; omega))
     have R6 := hHd (R5.out.kp hk6 (fun e => GNA.out e) (fun e => GNG.out e))
     obtain ⟨F3, hF3⟩ : ∃ Fj, Thr F2 w2.heap.size w6.heap.size = Fj := ⟨_, rfl⟩
     have M3 := hHd (M2.out.thr k6)
     have S3 := hHd (S2.out.thr k6)
     rw [hF3] at M3 S3
     have SUB3 := hHd (show ∀ k, F3 k -> F k from fun k e => by rw [<- hF3] at e; exact SUB2.out k e.1)
     have OUT3 := hHd (show ∀ k, w2.heap.size <= k -> k < w6.heap.size -> ¬ F3 k from fun k h1 h2 e => by rw [<- hF3] at e; exact Thr.out h1 h2 e)
     have LE3 := hHd (show ∀ k, F3 k -> F2 k from fun k e => by rw [<- hF3] at e; exact e.1)
     clear hF3
     have M6 := hHd M3.out
     have S6 := hHd S3.out
     have NG := hHd (OUT3.out g' HGE.out R6.out.lt.2)
     have B6 := hHd (BF.out.kp k6 (fun e => e))
     have BX6 := hHd hb6
     have KK6 := hHd k6
     clear hb6 hk6 k6
     refine hK.out _ _ (trivial) (fun hHeld74 => ?_)
     clear hK K
     try simp only [Act.put]
     refine tk 13 (h := ?_)
     refine wpAnyH_done (by kernel_rfl) ?_ _
     clear hHeld KX
     go_upto_region 8 with (first | (refine wpList_load_mid rfl 39 (.tmp 8) rfl gt 0 rfl (rsV a c g' R4) _ (Box.range' BX6.out) Tryz.underlying39 rfl (infoRs _ _ _ _) ?_) | (refine wpList_store_part rfl 39 (.tmp 40) (.tmp 38) rfl gx [.pointer (some ⟨b, 0, none⟩), .pointer (some ⟨gs, 0, none⟩)] (rsV a c gq R2) (rsV a c g' R4) [.int .i64 (L : Int)] rfl rfl M6.out.x rfl (infoRs _ _ _ _) (rsV_one _ _ _ _) ?_; intro w7 hb7 hk7) | fail)
     have M7 := hHd (M6.out.told R6.out M6.out.fa NG.out hb7 hk7)
     have S7 := hHd (S6.out.off M6.out.fx hk7)
     have B7 := hHd (B6.out.kp hk7 (B6.out.type_ne M6.out.x (by decide)))
     have K7 := hHd ((K2.out.trans KK6.out.of_false).trans (hk7.mono fun k _ e => .inr e))
     have BA7 := hHd ((A2.out.kp KK6.out (fun e => e)).kp hk7 (A2.out.type_ne M2.out.x (by decide)))
     clear hb7 hk7
     have y := M7.out.cells.2.1
     try simp only [Act.put]
     go_wp2_with fail
     have hrd : Rd w7 (some ⟨gb, 0, none⟩) (fullL cc) := .inr ⟨gb, 0, rfl, fun j u hj => by
      rw [Nat.zero_add, B7.out.cell, List.getElem?_toArray]
      unfold bcs
      rw [List.getElem?_map, hj]
      rfl⟩
     have hput := pputs_any S7.out M7.out.new (i : Int) (some ⟨gb, 0, none⟩) (fullL cc) 512 hrd (fun ad e => by
      injection e with e
      rw [<- e]
      exact fun e => NB2.out (LE3.out _ e))
     rw [fullL_length, show sr.putS d (i : Int) (fullL cc) = ({ sr with dead := false, chg := sr.chg.put i (fullL cc) }, 0) from putS_yes STR.out i (fullL cc) HI1.out HI.out (fullL_length _)] at hput
     refine hput.mono ?_
     clear hput hrd y
     rintro e w8 ⟨rfl, hs8, hk8⟩
     have M8 := hHd (M7.out.kp hk8)
     have S8 := hHd hs8
     have K8 := hHd (K7.out.trans (hk8.mono fun k _ e => .inl (SUB3.out k e)))
     have BA8 := hHd (BA7.out.kp hk8 (fun e => NAR.out (LE2.out _ (LE3.out _ e))))
     clear hs8 hk8
     go_wp2_with fail
     go_roundw
     case rel =>
      refine ⟨i + 1, by omega, by omega, by go_num, F3, g', { sr with dead := false, chg := sr.chg.put i (fullL cc) }, R4, fun k e => SUB3.out k e, fun e => NAR.out (LE2.out _ (LE3.out _ e)), M8.out, S8.out, STR.out.put i (fullL cc) HI.out (fullL_length _), ?_, NTR.out, ?_, K8.out⟩
      ·rw [<- HR4.out]
       exact RLR.out.put i (fullL cc) HI1.out
      ·exact BA8.out
     case measure => simp [Go.RowKit.intOf]; omega
    ·have hrd : Rd w2 (some ⟨gb, 0, none⟩) (fullL cc) := .inr ⟨gb, 0, rfl, fun j u hj => by
      rw [Nat.zero_add, BF.out.cell, List.getElem?_toArray]
      unfold bcs
      rw [List.getElem?_map, hj]
      rfl⟩
     have ht := (hrd.kp KX.out (fun _ _ e => e)).text (P := Tryz.prog) 50 9 5 512 Tryz.underlying50 Tryz.underlying5 Tryz.underlying9
     rw [fullL_length] at ht
     go_simp
     clear ht hrd
     refine hK.out _ _ (trivial) (fun hHeld81 => ?_)
     clear hK K
     try simp only [Act.put, sIa, sI0, sI1]
     refine rd 3 (h := fun K hK => ?_)
     rw [if_pos (by rfl)]
     refine wp_load_mid 39 (.tmp 29) rfl gx 2 rfl (rsV a c gq R2) _ (M2.out.still KX.out).rs Tryz.underlying39 rfl (infoRs _ _ _ _) ?_
     refine hK.out _ _ (trivial) (fun hHeld79 => ?_)
     clear hK K
     try simp only [Act.put, sIa, sI0, sI1]
     refine rd 7 (h := fun K hK => ?_)
     go_simp
     have hcall := rput_yes (M2.out.rv.still KX.out) i HI1.out (by rw [RLR.out.len]; exact HI.out) (fullL cc) (fullL_length _)
     rw [HR4.out] at hcall
     refine hcall.mono ?_
     clear hcall
     rintro e w5 ⟨g', rfl, hr, hg', hk5⟩
     have KX5 := hHd (KX.out.trans hk5)
     have HGE := hHd (Nat.le_trans KX.out.size hg')
     have R5 := hHd hr
     have BT5 := hHd (BT.out.kp hk5 (fun e => e))
     clear BT
     have BT := hHd BT5.out
     clear BT5
     clear hr hg' hk5 KX
     have KX := hHd KX5.out
     clear KX5
     go_wp2_with fail
     refine hK.out _ _ (trivial) (fun hHeld78 => ?_)
     clear hK K
     try simp only [Act.put, sIa, sI0, sI1]
     refine tk 8 (h := ?_)
     refine tk 9 (h := ?_)
     refine tk 10 (h := ?_)
     have GNA := hHd (show a ≠ gt from fun e => by
      obtain ⟨cur, hb, _⟩ := R5.out.row
      rw [e] at hb
      exact hb.type_ne BT.out (by decide) rfl)
     have GNG := hHd (show g' ≠ gt from fun e => by
      have hb := BT.out
      rw [<- e] at hb
      exact R5.out.ch.not_cells hb)
     refine rd 12 (h := fun K hK => ?_)
     rw [if_pos (by rfl)]
     refine wp_store_part 39 (.tmp 8) (.tmp 35) rfl gt [] [.slice none 0 0, .map none] (rsV a c g' R4) [] rfl rfl BT.out rfl (infoRs _ _ _ _) (rsV_one _ _ _ _) ?_
     intro w6 hb6 hk6
     have k6 := KX.out.trans_new hk6 (fun q e => .inl (by have e : q = gt := e; have := HGT.out; omega))
     have R6 := hHd (R5.out.kp hk6 (fun e => GNA.out e) (fun e => GNG.out e))
     obtain ⟨F3, hF3⟩ : ∃ Fj, Thr F2 w2.heap.size w6.heap.size = Fj := ⟨_, rfl⟩
     have M3 := hHd (M2.out.thr k6)
     have S3 := hHd (S2.out.thr k6)
     rw [hF3] at M3 S3
     have SUB3 := hHd (show ∀ k, F3 k -> F k from fun k e => by rw [<- hF3] at e; exact SUB2.out k e.1)
     have OUT3 := hHd (show ∀ k, w2.heap.size <= k -> k < w6.heap.size -> ¬ F3 k from fun k h1 h2 e => by rw [<- hF3] at e; exact Thr.out h1 h2 e)
     have LE3 := hHd (show ∀ k, F3 k -> F2 k from fun k e => by rw [<- hF3] at e; exact e.1)
     clear hF3
     have M6 := hHd M3.out
     have S6 := hHd S3.out
     have NG := hHd (OUT3.out g' HGE.out R6.out.lt.2)
     have B6 := hHd (BF.out.kp k6 (fun e => e))
     have BX6 := hHd hb6
     have KK6 := hHd k6
     clear hb6 hk6 k6
     refine hK.out _ _ (trivial) (fun hHeld77 => ?_)
     clear hK K
     try simp only [Act.put]
     refine tk 13 (h := ?_)
     refine wpAnyH_done (by kernel_rfl) ?_ _
     clear hHeld KX
     go_upto_region 8 with (first | (refine wpList_load_mid rfl 39 (.tmp 8) rfl gt 0 rfl (rsV a c g' R4) _ (Box.range' BX6.out) Tryz.underlying39 rfl (infoRs _ _ _ _) ?_) | (refine wpList_store_part rfl 39 (.tmp 40) (.tmp 38) rfl gx [.pointer (some ⟨b, 0, none⟩), .pointer (some ⟨gs, 0, none⟩)] (rsV a c gq R2) (rsV a c g' R4) [.int .i64 (L : Int)] rfl rfl M6.out.x rfl (infoRs _ _ _ _) (rsV_one _ _ _ _) ?_; intro w7 hb7 hk7) | fail)
     have M7 := hHd (M6.out.told R6.out M6.out.fa NG.out hb7 hk7)
     have S7 := hHd (S6.out.off M6.out.fx hk7)
     have B7 := hHd (B6.out.kp hk7 (B6.out.type_ne M6.out.x (by decide)))
     have K7 := hHd ((K2.out.trans KK6.out.of_false).trans (hk7.mono fun k _ e => .inr e))
     have BA7 := hHd ((A2.out.kp KK6.out (fun e => e)).kp hk7 (A2.out.type_ne M2.out.x (by decide)))
     clear hb7 hk7
     have y := M7.out.cells.2.1
     try simp only [Act.put]
     go_wp2_with fail
     have hrd : Rd w7 (some ⟨gb, 0, none⟩) (fullL cc) := .inr ⟨gb, 0, rfl, fun j u hj => by
      rw [Nat.zero_add, B7.out.cell, List.getElem?_toArray]
      unfold bcs
      rw [List.getElem?_map, hj]
      rfl⟩
     have hput := pputs_any S7.out M7.out.new (i : Int) (some ⟨gb, 0, none⟩) (fullL cc) 512 hrd (fun ad e => by
      injection e with e
      rw [<- e]
      exact fun e => NB2.out (LE3.out _ e))
     rw [fullL_length, show sr.putS d (i : Int) (fullL cc) = ({ sr with dead := false, chg := sr.chg.put i (fullL cc) }, 0) from putS_yes STR.out i (fullL cc) HI1.out HI.out (fullL_length _)] at hput
     refine hput.mono ?_
     clear hput hrd y
     rintro e w8 ⟨rfl, hs8, hk8⟩
     have M8 := hHd (M7.out.kp hk8)
     have S8 := hHd hs8
     have K8 := hHd (K7.out.trans (hk8.mono fun k _ e => .inl (SUB3.out k e)))
     have BA8 := hHd (BA7.out.kp hk8 (fun e => NAR.out (LE2.out _ (LE3.out _ e))))
     clear hs8 hk8
     go_wp2_with fail
     go_roundw
     case rel =>
      refine ⟨i + 1, by omega, by omega, by go_num, F3, g', { sr with dead := false, chg := sr.chg.put i (fullL cc) }, R4, fun k e => SUB3.out k e, fun e => NAR.out (LE2.out _ (LE3.out _ e)), M8.out, S8.out, STR.out.put i (fullL cc) HI.out (fullL_length _), ?_, NTR.out, ?_, K8.out⟩
      ·rw [<- HR4.out]
       exact RLR.out.put i (fullL cc) HI1.out
      ·exact BA8.out
     case measure => simp [Go.RowKit.intOf]; omega
  ·go_wp2_with fail
   go_ret
   exact ⟨KR.out, F1, SUB1.out, .inl ⟨rfl, gs, gl, g1, g2, a, c, gq, sr, d, R2, C, ⟨M1.out, S1.out, STR.out.mono (by omega), RLR.out, NTR.out⟩, .inl rfl, fun h => h⟩⟩
end
end Go.Proofs.YtepaeliamhjgiaaGreatDoor
