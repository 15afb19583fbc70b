/- The law of pages, part 36 of 55: PgAlloc PgPage PgAbort PgLate PgLateO. -/
import Derived.Test.YtepaeliamhjgiaaGreatDoorMu1
import Derived.Test.YtepaeliamhjgiaaGreatDoorMu35
set_option maxHeartbeats 16000000
set_option maxRecDepth 100000
namespace Go.Proofs.YtepaeliamhjgiaaGreatDoor
open Go.RowKit Go.Maps Go.Shelf
def Sm.allocS (s : Sm) (d : Dm) (k : Nat) : Sm × Int × Int :=
 if s.pw d then if k < s.n then ({ (({ s with dead := false } : Sm).useS k true) with chg := ((({ s with dead := false } : Sm).useS k true).chg).put k zsec }, k, 0) else ({ s with dead := false }, 0, 5) else ({ s with dead := true }, 0, 4)
theorem palloc_any {F : Nat -> Prop} {w : World} {gs gl b g1 g2 : Nat} {s : Sm} {d : Dm} (h : Sto F w gs gl b g1 g2 s d) (h0 : 0 < s.n) (k : Nat) (hl : Bt.Least s.cused s.n k) (tb : Bt.Tbl w) (hFT : ¬ F 0) :
  Calls Tryz.prog 20 #[.pointer (some ⟨gs, 0, none⟩)] w fun e w' => e = .returned (.tuple #[.int .i64 (s.allocS d k).2.1, .int .i64 (s.allocS d k).2.2]) /\ Sto F w' gs gl b g1 g2 (s.allocS d k).1 d /\ Kp F w w' := by
 have H := hHd h
 have HN0 := hHd h0
 have HL := hHd hl
 have HTB := hHd tb
 have HFT := hHd hFT
 have HN := hHd h.u.1
 clear h h0 hl tb hFT
 go_enter Tryz.func20, Tryz.ntmps20
 go_wp2_with fail
 obtain ⟨W3, hW3, b3, k3⟩ : ∃ W3, W3 = w.alloc (.cells (([(Stp.mk 63 #[.pointer (some ⟨gs, 0, none⟩)] #[])] ++ [pst gs]).map Stp.v).toArray 104) /\ Box W3 w.heap.size 104 (([(Stp.mk 63 #[.pointer (some ⟨gs, 0, none⟩)] #[])] ++ [pst gs]).map Stp.v).toArray /\ Kp (fun _ => False) w W3 := ⟨_, rfl, Box.new w _ _, (Kp.refl _ w).alloc _⟩
 have K3 := hHd k3
 have S3 := hHd (H.out.still K3.out)
 have hcall : ∀ W, W = W3 -> Calls Tryz.prog 42 #[.slice (some ⟨w.heap.size, 0, none⟩) 2 2] W _ := fun W e => by
  rw [e]
  exact check_order S3.out [(Stp.mk 63 #[.pointer (some ⟨gs, 0, none⟩)] #[])] [0] rfl (show 1 <= 90 by decide) b3 (fun st hst => by
   simp only [List.mem_cons, List.not_mem_nil, or_false] at hst
   subst hst
   exact enters_of Tryz.func63 (by kernel_rfl) rfl) (fun j st c V hj hc hk => by
   match j, hj, hc with
   |0, hj, hc =>
    injection hj with hj
    injection hc with hc
    subst hj
    subst hc
    exact (pis_any gs V).mono fun e w' ⟨he, hw⟩ => ⟨he, hw ▸ Kp.refl _ _⟩
   |j + 1, hj, hc => simp at hj) 2
 refine (hcall _ hW3.symm).mono ?_
 clear hcall hW3 b3
 rintro e V (⟨_, rfl, hs, hk⟩ | ⟨hz, _⟩)
 ·have K4 := hHd ((K3.out.of_false (S := F)).trans (hk.mono fun q _ e => by rw [show q = gs from e]; exact H.out.fs))
  clear k3
  rcases hp : s.pw d with _ | _
  ·rw [hp] at hs
   have HP := hHd hp
   have S4 := hHd hs
   clear hp hs hk
   go_wp2_with fail
   go_ret2
   unfold Sm.allocS
   rw [HP.out]
   exact ⟨rfl, S4.out, K4.out⟩
  ·rw [hp] at hs
   have HP := hHd hp
   have S4 := hHd hs
   have T4 := hHd (HTB.out.kp K4.out HFT.out)
   have HU := hHd hs.cused
   clear hp hs hk
   go_wp2_with (first | (refine wpList_load_mid rfl 82 (.tmp 20) rfl gs 22 rfl (Bt.mcs s.cused s.n) _ HU.out Tryz.underlying82 rfl (Bt.infoMca _ _) ?_) | fail)
   refine (Bt.find_any s.cused s.n k V S4.out.cu HL.out T4.out).mono ?_
   rintro e w5 ⟨rfl, hk5⟩
   have S5 := hHd (S4.out.still hk5)
   have K5 := hHd (K4.out.trans (hk5.of_false (S := F)))
   clear hk5
   rcases Nat.lt_or_ge k s.n with hlt | hge
   ·rw [if_pos hlt, decide_eq_true hlt]
    have HLT := hHd hlt
    clear hlt
    go_wp2_with fail
    refine (use_any S5.out HN0.out k true).mono ?_
    rintro e w6 ⟨rfl, hs6, hk6⟩
    have S6 := hHd hs6
    have K6 := hHd (K5.out.trans (hk6.mono fun q _ e => by
     rcases e with e | e
     ·rw [e]; exact H.out.fs
     ·rw [e]; exact H.out.f2))
    clear hs6 hk6
    have y := S6.out.cells.2.2.2.2.1
    have hbz : (Instr.build 107 #[]).run Tryz.prog = fun w => .ok (.agg (bcs zsec).toArray) w := by rw [bcs_zsec]; kernel_rfl
    go_upto_region 9 with (first | (refine wpList_putPg rfl (.tmp 36) (.tmp 37) (.tmp 38) rfl rfl S6.out.chg k HLT.out zsec zsec_length rfl rfl ?_; intro w7 hm7 hk7; have S7 := hHd (S6.out.setChg hk7 hm7); have K7 := hHd (K6.out.trans (hk7.mono fun q _ e => by rw [show q = g2 from e]; exact H.out.f2)); clear hm7 hk7 y) | fail)
    go_wp2_with fail
    go_ret2
    unfold Sm.allocS
    rw [HP.out, if_pos rfl, if_pos HLT.out]
    exact ⟨rfl, S7.out, K7.out⟩
   ·have hnl : ¬ k < s.n := Nat.not_lt.2 hge
    rw [if_neg hnl, decide_eq_false hnl]
    have HLT := hHd hnl
    clear hnl hge
    go_wp2_with fail
    go_ret2
    unfold Sm.allocS
    rw [HP.out, if_pos rfl, if_neg HLT.out]
    exact ⟨rfl, S5.out, K5.out⟩
 ·exact absurd rfl hz
theorem mcs_u8 (f : Nat -> Bool) (n : Nat) (i : Nat) (u : Int) : (Bt.mcs f n)[i]? ≠ some (Value.int .u8 u) := fun h => by
 rcases List.mem_append.1 (List.mem_of_getElem? h) with hv | hv
 ·obtain ⟨j, _, e⟩ := List.mem_map.1 hv
  cases e
 ·have := List.mem_singleton.1 hv
  cases this
theorem stc_u8 {gl b g1 g2 : Nat} {note : List UInt8} (f f' : Nat -> Bool) (n n' : Nat) (dead : Bool) (i : Nat) (u : Int) : ((stc gl b note (Bt.mcs f n) (.map (some g1)) (.map (some g2)) (Bt.mcs f' n') dead).toArray)[i]? ≠ some (Value.int .u8 u) := fun h => by
 rw [List.getElem?_toArray] at h
 have hm := List.mem_of_getElem? h
 simp only [stc, sth, List.mem_append, List.mem_cons, List.not_mem_nil, or_false] at hm
 rcases hm with ((((h | h | h) | h) | (h | h)) | h) | h
 ·cases h
 ·cases h
 ·cases h
 ·obtain ⟨j, hj⟩ := List.getElem?_of_mem h
  exact mcs_u8 f n j u hj
 ·cases h
 ·cases h
 ·obtain ⟨j, hj⟩ := List.getElem?_of_mem h
  exact mcs_u8 f' n' j u hj
 ·cases h
def Sm.pageS (s : Sm) (d : Dm) (i : Int) : Sm × List UInt8 × Int :=
 if hasP s.n i then if s.pw d then (match (s.chg i.toNat).or (s.late i.toNat) with
  |some p => ({ s with dead := false }, p, 0)
  |none => ({ s with dead := (d.readS ((2 + s.l.h.n + i.toNat : Nat) : Int)).2 == 4 }, (d.readS ((2 + s.l.h.n + i.toNat : Nat) : Int)).1, (d.readS ((2 + s.l.h.n + i.toNat : Nat) : Int)).2)) else ({ s with dead := true }, [], 4) else (s, [], 2)
theorem ppages_read {F : Nat -> Prop} {w : World} {gs gl b g1 g2 : Nat} {s : Sm} {d : Dm} (h : Sto F w gs gl b g1 g2 s d) (hL : s.l.h.n <= 100000) (i : Int) :
  Calls Tryz.prog 19 #[.pointer (some ⟨gs, 0, none⟩), .int .i64 i] w fun e w' => ∃ A c, e = .returned (.tuple #[.slice A (s.pageS d i).2.1.length c, .int .i64 (s.pageS d i).2.2]) /\ Rd w' A (s.pageS d i).2.1 /\ Sto F w' gs gl b g1 g2 (s.pageS d i).1 d /\ Kp F w w' := by
 have H := hHd h
 have HL := hHd hL
 have HN := hHd h.u.1
 clear h hL
 go_enter Tryz.func19, Tryz.ntmps19
 go_wp2_with fail
 refine (phasv_any gs i w).mono ?_
 rintro e w1 ⟨ga, gb, rfl, ha, hb, hk1⟩
 have BA := hHd ha
 have BB := hHd hb
 have K1 := hHd hk1
 clear ha hb hk1
 go_wp2_with fail
 obtain ⟨x1, hx1⟩ : ∃ x1 : Int, (if hasP s.n i then 0 else 2) = x1 := ⟨_, rfl⟩
 obtain ⟨W3, hW3, b3, k3⟩ : ∃ W3, W3 = w1.alloc (.cells (([(Stp.mk 63 #[.pointer (some ⟨gs, 0, none⟩)] #[]), (Stp.mk 117 #[] #[.pointer (some ⟨gb, 0, none⟩), .pointer (some ⟨ga, 0, none⟩)])] ++ [pst gs]).map Stp.v).toArray 104) /\ Box W3 w1.heap.size 104 (([(Stp.mk 63 #[.pointer (some ⟨gs, 0, none⟩)] #[]), (Stp.mk 117 #[] #[.pointer (some ⟨gb, 0, none⟩), .pointer (some ⟨ga, 0, none⟩)])] ++ [pst gs]).map Stp.v).toArray /\ Kp (fun _ => False) w1 W3 := ⟨_, rfl, Box.new w1 _ _, (Kp.refl _ w1).alloc _⟩
 have K3 := hHd (K1.out.trans k3)
 have S3 := hHd (H.out.still K3.out)
 have hcall : ∀ W, W = W3 -> Calls Tryz.prog 42 #[.slice (some ⟨w1.heap.size, 0, none⟩) 3 3] W _ := fun W e => by
  rw [e]
  exact check_order S3.out [(Stp.mk 63 #[.pointer (some ⟨gs, 0, none⟩)] #[]), (Stp.mk 117 #[] #[.pointer (some ⟨gb, 0, none⟩), .pointer (some ⟨ga, 0, none⟩)])] [0, x1] rfl (show 2 <= 90 by decide) b3 (fun st hst => by
   simp only [List.mem_cons, List.not_mem_nil, or_false] at hst
   rcases hst with rfl | rfl
   ·exact enters_of Tryz.func63 (by kernel_rfl) rfl
   ·exact enters_of Tryz.func117 (by kernel_rfl) rfl) (fun j st c V hj hc hk => by
   match j, hj, hc with
   |0, hj, hc =>
    injection hj with hj
    injection hc with hc
    subst hj
    subst hc
    exact (pis_any gs V).mono fun e w' ⟨he, hw⟩ => ⟨he, hw ▸ Kp.refl _ _⟩
   |1, hj, hc =>
    injection hj with hj
    injection hc with hc
    subst hj
    subst hc
    rw [<- hx1]
    exact phas_any (S3.out.still hk) ((BB.out.kp k3 (fun e => e)).kp hk (fun e => e)) ((BA.out.kp k3 (fun e => e)).kp hk (fun e => e))
   |j + 2, hj, hc => simp at hj) 3
 refine (hcall _ hW3.symm).mono ?_
 clear hcall hW3 b3
 rintro e V (⟨hz, rfl, hs, hk⟩ | ⟨hz, rfl, hk⟩)
 ·have hc1 : hasP s.n i = true := by
   rcases h : hasP s.n i with _ | _
   ·rw [h] at hx1
    rw [<- hx1] at hz
    simp [fst0] at hz
   ·rfl
  have HC1 := hHd hc1
  have K4 := hHd ((K3.out.of_false (S := F)).trans (hk.mono fun q _ e => by rw [show q = gs from e]; exact H.out.fs))
  clear hz hx1 hc1 k3
  rcases hp : s.pw d with _ | _
  ·rw [hp] at hs
   have HP := hHd hp
   have S4 := hHd hs
   clear hp hs hk
   go_wp2_with fail
   go_ret2
   unfold Sm.pageS
   rw [HC1.out, HP.out]
   exact ⟨none, 0, rfl, .inl rfl, S4.out, K4.out⟩
  ·rw [hp] at hs
   have HP := hHd hp
   clear hp
   obtain ⟨hge, hlt⟩ : 0 <= i /\ i < (s.n : Int) := by simpa [hasP] using HC1.out
   obtain ⟨k, rfl⟩ := Int.eq_ofNat_of_zero_le hge
   have HKN := hHd (show k < s.n by omega)
   have hVd : Kp (fun _ => False) V V.drew := (Kp.refl _ V).drew
   have S4 := hHd hs
   have Y1 := hHd (show V.drew.cell? ⟨gs, 20, none⟩ = some (.map (some g1)) from (hs.still hVd).cells.2.2.2.1)
   have Y2 := hHd (show V.drew.cell? ⟨gs, 21, none⟩ = some (.map (some g2)) from (hs.still hVd).cells.2.2.2.2.1)
   clear hs hk hge hlt hVd
   go_upto_region 4 with fail
   refine wp_region_held_drew (S := fun v => v.cell? ⟨gs, 20, none⟩ = some (.map (some g1)) /\ v.cell? ⟨gs, 21, none⟩ = some (.map (some g2))) (by kernel_rfl) (⟨Y1.out, Y2.out⟩) (fun hHeld => ?_)
   refine tk 0 (h := ?_)
   refine tk 1 (h := ?_)
   refine tk 2 (h := ?_)
   refine tk 3 (h := ?_)
   refine tk 4 (v := ?_) (hy := ?_) (h := ?_)
   rotate_left
   ·intro v hSw
    have y := hSw.2
    go_simp
    with_reducible rfl
   refine tk 5 (h := ?_)
   refine tk 6 (h := ?_)
   refine tk 7 (h := ?_)
   refine tk 8 (v := ?_) (hy := ?_) (h := ?_)
   rotate_left
   ·intro v hSw
    have y := hSw.1
    go_simp
    with_reducible rfl
   refine tk 11 (h := ?_)
   refine rd 9 (h := fun K hK => ?_)
   go_simp
   obtain ⟨W6, hW6, bx6, k6⟩ : ∃ W6, W6 = (V.alloc (.cells #[.map (some g2), .map (some g1)] 78)).drew /\ Box W6 V.heap.size 78 #[.map (some g2), .map (some g1)] /\ Kp (fun _ => False) V W6 := ⟨_, rfl, Box.new V _ _, ((Kp.refl _ V).alloc _).drew⟩
   rw [<- hW6]
   obtain ⟨gr, hgr⟩ : ∃ gr, V.heap.size = gr := ⟨_, rfl⟩
   rw [hgr] at bx6 ⊢
   have B6 := hHd bx6
   have K6 := hHd (K4.out.trans (k6.of_false (S := F)))
   have S6 := hHd (S4.out.still k6)
   have Y16 := hHd (show W6.cell? ⟨gs, 20, none⟩ = some (.map (some g1)) from S6.out.cells.2.2.2.1)
   have Y26 := hHd (show W6.cell? ⟨gs, 21, none⟩ = some (.map (some g2)) from S6.out.cells.2.2.2.2.1)
   clear hW6 bx6 k6 hgr
   refine hK.out _ _ (⟨Y16.out, Y26.out⟩) (fun hHeld1 => ?_)
   clear hK K
   try simp only [Act.put, sIa, sI0, sI1]
   refine tk 10 (h := ?_)
   refine wpAnyH_done (by kernel_rfl) ?_ _
   clear hHeld
   go_wp2_with fail
   go_loopw [36] (fun s36 wr => ∃ j : Nat, j <= 2 /\ s36 = .int .i64 j /\ (0 < j -> s.chg k = none) /\ (1 < j -> s.late k = none) /\ Kp (fun _ => False) W6 wr) (fun s36 _ => 2 - (Go.RowKit.intOf s36).toNat)
   case atStart => exact ⟨0, by omega, rfl, fun h => by omega, fun h => by omega, Kp.refl _ W6⟩
   case round =>
    obtain ⟨j, hj, rfl, hj0, hj1, hkw⟩ := hrel
    have SW := hHd (S6.out.still hkw)
    have BW := hHd (B6.out.kp hkw (fun e => e))
    have KW := hHd (K6.out.trans (hkw.of_false (S := F)))
    have KW0 := hHd hkw
    clear hkw
    by_cases hlt : j < 2
    ·obtain ⟨g, m, hcell, hpg, hno, hyes⟩ : ∃ (g : Nat) (m : Bm), wr.cell? ⟨gr, j, none⟩ = some (.map (some g)) /\ Pgm wr g s.n m /\ (m k = none -> (0 < j + 1 -> s.chg k = none) /\ (1 < j + 1 -> s.late k = none)) /\ ∀ p, m k = some p -> (s.chg k).or (s.late k) = some p := by
      rcases Nat.lt_or_ge 0 j with h | h
      ·have hj1 : j = 1 := by omega
       subst hj1
       have hc := hj0 h
       exact ⟨g1, s.late, BW.out.cell 1, SW.out.late, fun hm => ⟨fun _ => hc, fun _ => hm⟩, fun p hm => by rw [hc, hm]; rfl⟩
      ·have hj1 : j = 0 := by omega
       subst hj1
       exact ⟨g2, s.chg, BW.out.cell 0, SW.out.chg, fun hm => ⟨fun _ => hm, fun h => by omega⟩, fun p hm => by rw [hm]; rfl⟩
     have PG := hHd hpg
     have HNO := hHd hno
     have HYES := hHd hyes
     have hkb := hHd (show k < 9223372036854775808 by have := HKN.out; have := HN.out; omega)
     clear hpg hno hyes hj0 hj1
     go_upto_region 8 with (first | (refine wpList_anyPg rfl (.tmp 41) (.tmp 42) rfl rfl PG.out k hkb.out rfl ?_; intro p x hpl hx1 hx2; have HPL := hHd hpl; have HX1 := hHd hx1; have HX2 := hHd hx2; clear hpl hx1 hx2) | (refine wpList_store_box rfl 107 (.tmp 9) (.tmp 44) rfl wr.heap.size (bcs p) rfl rfl (Box.new wr 107 Tryz.zeroCells107) (by rw [bcs_length, HPL.out]; kernel_rfl) (by rw [bcs_length, HPL.out]; exact infoPg) (bcs_one p) ?_; intro w3 hb3 hk3; have B3 := hHd hb3; have K3b := hHd (((Kp.refl (fun _ => False) wr).alloc (.cells Tryz.zeroCells107 107)).trans_new hk3 (fun q e => .inl (by omega))); clear hb3 hk3) | fail)
     rcases x with _ | _
     ·go_wp2_with fail
      go_roundw
      case measure =>
       simp only [Go.RowKit.intOf]
       omega
      case rel =>
       obtain ⟨e1, e2⟩ := HNO.out (HX2.out rfl)
       exact ⟨j + 1, by omega, by go_num, e1, e2, KW0.out.trans K3b.out⟩
     ·go_wp2_with fail
      go_ret2
      have hor := HYES.out p (by first | exact HX1.out rfl | exact HX1.out trivial)
      unfold Sm.pageS
      rw [HC1.out, HP.out, if_pos rfl, if_pos rfl, show ((k : Int)).toNat = k from rfl, hor]
      dsimp only
      have hpl := HPL.out
      have hsd : Sto F w3 gs gl b g1 g2 { s with dead := false } d := SW.out.still K3b.out
      exact ⟨_, ⟨512, by rw [hpl]; rfl⟩, .inr ⟨wr.heap.size, 0, rfl, fun j u hj => by rw [B3.out.cell, Nat.zero_add]; simp [bcs_get, hj]⟩, hsd, KW.out.trans (K3b.out.of_false (S := F))⟩
    ·have h2 : j = 2 := by omega
     subst h2
     have hor : (s.chg k).or (s.late k) = none := by rw [hj0 (by omega), hj1 (by omega)]; rfl
     have HOR := hHd hor
     clear hor hj0 hj1
     obtain ⟨L, hLn⟩ : ∃ L, s.l.h.n = L := ⟨_, rfl⟩
     have HLN := hHd hLn
     have HL := hHd (show L <= 100000 from hLn ▸ HL.out)
     obtain ⟨z, hz⟩ : ∃ z, d.readS ((2 + L + k : Nat) : Int) = z := ⟨_, rfl⟩
     have HRD := hHd hz
     obtain ⟨l5, q5⟩ := z
     have kd : Kp (fun _ => False) wr wr.drew := (Kp.refl _ wr).drew
     have SD := hHd (SW.out.still kd)
     have KD := hHd (KW.out.trans (kd.of_false (S := F)))
     have YA := hHd SD.out.cells.1
     have YB := hHd SD.out.cells.2.1
     clear hLn hz kd
     go_upto_region 11 with fail
     refine wp_region_held_drew (S := fun v => v.cell? ⟨gs, 0, none⟩ = some (.pointer (some ⟨gl, 0, none⟩)) /\ v.cell? ⟨gs, 1, none⟩ = some (.pointer (some ⟨b, 0, none⟩))) (by kernel_rfl) (⟨YA.out, YB.out⟩) (fun hHeld => ?_)
     refine tk 0 (h := ?_)
     refine tk 1 (h := ?_)
     refine tk 2 (h := ?_)
     refine tk 3 (v := ?_) (hy := ?_) (h := ?_)
     rotate_left
     ·intro v hSw
      have y := hSw.2
      go_simp
      with_reducible rfl
     refine tk 4 (h := ?_)
     refine tk 5 (h := ?_)
     refine tk 6 (h := ?_)
     refine tk 7 (v := ?_) (hy := ?_) (h := ?_)
     rotate_left
     ·intro v hSw
      have y := hSw.1
      go_simp
      with_reducible rfl
     refine tk 9 (h := ?_)
     refine rd 8 (h := fun K hK => ?_)
     go_simp
     refine (lsectors_any SD.out.lg).mono ?_
     rintro e w9 ⟨rfl, rfl⟩
     rw [HLN.out]
     go_wp2_with fail
     refine hK.out _ _ (⟨YA.out, YB.out⟩) (fun hHeld2 => ?_)
     clear hK K
     try simp only [Act.put, sIa, sI0, sI1]
     refine rd 10 (h := fun K hK => ?_)
     go_simp
     refine (psector_any L k HL.out (by have := HKN.out; have := HN.out; omega) _).mono ?_
     rintro e w9 ⟨rfl, rfl⟩
     go_wp2_with fail
     refine hK.out _ _ (⟨YA.out, YB.out⟩) (fun hHeld3 => ?_)
     clear hK K
     try simp only [Act.put, sIa, sI0, sI1]
     refine rd 11 (h := fun K hK => ?_)
     go_simp
     refine (read_any SD.out.dk ((2 + L + k : Nat) : Int)).mono ?_
     rw [HRD.out]
     rintro e w5 ⟨A5, rfl, hrd5, hk5⟩
     have RD5 := hHd hrd5
     have S5 := hHd (SD.out.still hk5)
     have K5 := hHd (KD.out.trans (hk5.of_false (S := F)))
     have YA5 := hHd S5.out.cells.1
     have YB5 := hHd S5.out.cells.2.1
     clear hrd5 hk5
     go_wp2_with fail
     refine hK.out _ _ (⟨YA5.out, YB5.out⟩) (fun hHeld4 => ?_)
     clear hK K
     try simp only [Act.put, sIa, sI0, sI1]
     refine tk 12 (h := ?_)
     refine tk 13 (h := ?_)
     refine tk 14 (h := ?_)
     refine tk 15 (h := ?_)
     refine tk 16 (h := ?_)
     refine wpAnyH_done (by kernel_rfl) ?_ _
     clear hHeld
     go_wp2_with fail
     refine (phear_any S5.out q5).mono ?_
     rintro e w6 ⟨rfl, hs6, hk6⟩
     have S6b := hHd hs6
     have K6b := hHd hk6
     have R6 := hHd (RD5.out.kp_box hk6 S5.out.box (stc_u8 _ _ _ _ _))
     clear hs6 hk6
     go_wp2_with fail
     go_ret2
     unfold Sm.pageS
     rw [HC1.out, HP.out, if_pos rfl, if_pos rfl, show ((k : Int)).toNat = k from rfl, HOR.out, HLN.out, HRD.out]
     dsimp only
     exact ⟨_, _, rfl, R6.out, S6b.out, K5.out.trans (K6b.out.mono fun q _ e => by rw [show q = gs from e]; exact H.out.fs)⟩
 ·have hf : fst0 [0, x1] = 2 /\ hasP s.n i = false := by
   rw [<- hx1] at hz ⊢
   revert hz
   rcases hasP s.n i <;> simp [fst0]
  have HC := hHd hf.2
  rw [hf.1]
  have K4 := hHd (K3.out.trans hk)
  clear hf hz hx1 hk k3
  go_wp2_with fail
  go_ret2
  unfold Sm.pageS
  rw [HC.out]
  exact ⟨none, 0, rfl, .inl rfl, H.out.still K4.out, K4.out.of_false⟩
theorem pabort_nil (w : World) : Calls Tryz.prog 21 #[.pointer none] w fun e w' => e = .returned (.tuple #[]) /\ w = w' := by
 go_enter Tryz.func21, Tryz.ntmps21
 go_wp2_with fail
 refine bodyPost_end (v := .tuple #[]) (by kernel_rfl) rfl ?_
 exact ⟨rfl, rfl⟩
theorem pabort_sto {F : Nat -> Prop} {w : World} {gs gl b g1 g2 : Nat} {s : Sm} {d : Dm} (h : Sto F w gs gl b g1 g2 s d) (hF : ∀ k, w.heap.size <= k -> F k) :
  Calls Tryz.prog 21 #[.pointer (some ⟨gs, 0, none⟩)] w fun e w' => e = .returned (.tuple #[]) /\ ∃ g2', w.heap.size <= g2' /\ Sto F w' gs gl b g1 g2' s.abortS d /\ Kp (fun k => k = gs) w w' := by
 refine (pabort_stb h.stb h.u.1).mono ?_
 rintro e w' ⟨rfl, g3, hg3, hst, hm, hk⟩
 obtain ⟨n1, n2, n3⟩ := h.g1ne
 refine ⟨rfl, g3, hg3, ⟨h.fs, h.fl, h.f1, hF _ hg3, ?_, hst.2.2, h.lg.kp hk n3, h.late.kp hk n1, hm, ?_, h.u, h.u⟩, hk⟩
 ·have := h.late.lt
  omega
 ·obtain ⟨F1, hd1, hf1⟩ := h.dk.fit
  have hd : Dsk (fun k => F1 k) w b d := hd1
  refine (hd.off h.box ⟨by decide, by decide, by decide⟩ hk).mono fun k e => ?_
  obtain ⟨⟨e1, e2, _⟩, e4⟩ := hf1 k e
  exact ⟨e1, e2, by omega⟩
theorem Sto.turnD {F : Nat -> Prop} {w w' : World} {gs gl b g1 g2 : Nat} {s : Sm} {d d' : Dm} (h : Sto F w gs gl b g1 g2 s d) (hk : Kp (fun k => (F k /\ k ≠ g1 /\ k ≠ g2) /\ DT w k) w w') (hd : Dsk (fun k => (F k /\ k ≠ g1 /\ k ≠ g2) /\ DT w k) w' b d') : Sto F w' gs gl b g1 g2 s d' :=
 ⟨h.fs, h.fl, h.f1, h.f2, h.ne, h.box.kp hk (fun e => not_DT h.box ⟨by decide, by decide, by decide⟩ e.2), h.lg.kp hk (fun e => not_DT h.lg ⟨by decide, by decide, by decide⟩ e.2), h.late.kp hk (fun e => e.1.2.1 rfl), h.chg.kp hk (fun e => e.1.2.2 rfl), hd.mono fun k e => e.1, h.u, h.cu⟩
theorem writeLate_any {F : Nat -> Prop} {w : World} {gs gl b g1 g2 : Nat} {s : Sm} {d : Dm} (h : Sto F w gs gl b g1 g2 s d) (hF : ∀ k, w.heap.size <= k -> F k) (hL : s.l.h.n <= 100000) (hw : d.wait.length + 2000 < 1073741824) :
  Calls Tryz.prog 127 #[.pointer (some ⟨gs, 0, none⟩)] w fun e w' => e = .returned (.int .i64 (Dm.putPg (2 + s.l.h.n) s.late (s.late.keys s.n) d).2) /\ Sto F w' gs gl b g1 g2 s (Dm.putPg (2 + s.l.h.n) s.late (s.late.keys s.n) d).1 /\ Kp (fun k => (F k /\ k ≠ g1 /\ k ≠ g2) /\ DT w k) w w' := by
 obtain ⟨L, hLn⟩ : ∃ L, s.l.h.n = L := ⟨_, rfl⟩
 rw [hLn] at hL ⊢
 have HLN := hHd hLn
 have kd : Kp (fun _ => False) w w.drew := (Kp.refl _ w).drew
 have hs := h.still kd
 have l1 := h.late.lt
 have l2 := h.chg.lt
 have hpw := pwrite_any (F := fun k => (F k /\ k ≠ g1 /\ k ≠ g2) /\ DT w.drew k) (w := w.drew) (fun k hk => ⟨⟨hF k hk, by have : w.heap.size <= k := hk; omega, by have : w.heap.size <= k := hk; omega⟩, .inl hk⟩) hs.late (fun e => e.1.2.1 rfl) hs.dk.bothG L hL hw
 generalize Dm.putPg (2 + L) s.late (s.late.keys s.n) d = z at hpw ⊢
 obtain ⟨d5, q5⟩ := z
 dsimp only at hpw ⊢
 have HPW := hHd hpw
 have SD := hHd hs
 have Y0 := hHd hs.cells.1
 have Y1 := hHd hs.cells.2.1
 have Y2 := hHd hs.cells.2.2.2.1
 clear h hF hL hw hLn kd hs l1 l2 hpw
 go_enter Tryz.func127, Tryz.ntmps127
 go_upto_region 1 with fail
 refine wp_region_held_drew (S := fun v => v.cell? ⟨gs, 0, none⟩ = some (.pointer (some ⟨gl, 0, none⟩)) /\ v.cell? ⟨gs, 1, none⟩ = some (.pointer (some ⟨b, 0, none⟩)) /\ v.cell? ⟨gs, 20, none⟩ = some (.map (some g1))) (by kernel_rfl) (⟨Y0.out, Y1.out, Y2.out⟩) (fun hHeld => ?_)
 refine tk 0 (h := ?_)
 refine tk 1 (h := ?_)
 refine tk 2 (h := ?_)
 refine tk 3 (v := ?_) (hy := ?_) (h := ?_)
 rotate_left
 ·intro v hSw
  have y := hSw.2.2
  go_simp
  with_reducible rfl
 refine tk 4 (h := ?_)
 refine tk 5 (h := ?_)
 refine tk 6 (h := ?_)
 refine tk 7 (v := ?_) (hy := ?_) (h := ?_)
 rotate_left
 ·intro v hSw
  have y := hSw.2.1
  go_simp
  with_reducible rfl
 refine tk 8 (h := ?_)
 refine tk 9 (h := ?_)
 refine tk 10 (h := ?_)
 refine tk 11 (v := ?_) (hy := ?_) (h := ?_)
 rotate_left
 ·intro v hSw
  have y := hSw.1
  go_simp
  with_reducible rfl
 refine rd 12 (h := fun K hK => ?_)
 go_simp
 refine (lsectors_any SD.out.lg).mono ?_
 rintro e w9 ⟨rfl, rfl⟩
 rw [HLN.out]
 go_wp2_with fail
 refine hK.out _ _ (⟨Y0.out, Y1.out, Y2.out⟩) (fun hHeld1 => ?_)
 clear hK K
 try simp only [Act.put, sIa, sI0, sI1]
 refine rd 13 (h := fun K hK => ?_)
 go_simp
 refine HPW.out.mono ?_
 rintro e w5 ⟨rfl, hd5, hk5⟩
 have S5 := hHd (SD.out.turnD hk5 hd5)
 have K5 := hHd (((Kp.refl (fun k => (F k /\ k ≠ g1 /\ k ≠ g2) /\ DT w.drew k) w).drew).trans hk5)
 have Y05 := hHd S5.out.cells.1
 have Y15 := hHd S5.out.cells.2.1
 have Y25 := hHd S5.out.cells.2.2.2.1
 clear hd5 hk5
 go_wp2_with fail
 refine hK.out _ _ (⟨Y05.out, Y15.out, Y25.out⟩) (fun hHeld2 => ?_)
 clear hK K
 try simp only [Act.put, sIa, sI0, sI1]
 refine tk 14 (h := ?_)
 refine wpAnyH_done (by kernel_rfl) ?_ _
 clear hHeld
 go_wp2_with fail
 go_ret
 exact ⟨rfl, S5.out, K5.out⟩
section
variable {F : Nat -> Prop} {w w' : World} {gs gl b g1 g2 gst : Nat} {s : Sm} {d d' : Dm} {l' : Lm}
theorem Sto.turnL (h : Sto F w gs gl b g1 g2 s d) (hk : Kp (fun k => ((F k /\ k ≠ g1 /\ k ≠ g2) /\ DT w k) \/ k = gl) w w') (hd : Dsk (fun k => (F k /\ k ≠ g1 /\ k ≠ g2) /\ DT w k) w' b d') (hl : Box w' gl 130 (lcs b l')) : Sto F w' gs gl b g1 g2 { s with l := l' } d' :=
 ⟨h.fs, h.fl, h.f1, h.f2, h.ne, h.box.kp hk (fun e => e.elim (fun e => not_DT h.box ⟨by decide, by decide, by decide⟩ e.2) (fun e => h.g1ne.2.2 e.symm)), hl, h.late.kp hk (fun e => e.elim (fun e => e.1.2.1 rfl) (fun e => h.late.not_cells (by have := h.lg; rw [<- e] at this; exact this))),
  h.chg.kp hk (fun e => e.elim (fun e => e.1.2.2 rfl) (fun e => h.chg.not_cells (by have := h.lg; rw [<- e] at this; exact this))), hd.mono fun k e => e.1, h.u, h.cu⟩
def lateR (s : Sm) (d : Dm) : Dm × Int := Dm.putPg (2 + s.l.h.n) s.late (s.late.keys s.n) d
def Sm.lateS (s : Sm) (d : Dm) : Sm × Dm × Int :=
 if (Dm.thenFlush (lateR s d)).2 = 0 then ({ s with l := (s.l.trimS (Dm.thenFlush (lateR s d)).1).1 }, (s.l.trimS (Dm.thenFlush (lateR s d)).1).2.1, (s.l.trimS (Dm.thenFlush (lateR s d)).1).2.2) else (s, (Dm.thenFlush (lateR s d)).1, (Dm.thenFlush (lateR s d)).2)
theorem late_order (h : Sto F w gs gl b g1 g2 s d) (hF : ∀ k, w.heap.size <= k -> F k) (hFT : ¬ F 1) (tb : Tbl w) (hL : s.l.h.n <= 100000) (lok : s.l.ok) (hw : d.wait.length + 4000 < 1073741824) (hr : Box w gst 104 (([(Stp.mk 127 #[.pointer (some ⟨gs, 0, none⟩)] #[]), (Stp.mk 47 #[.pointer (some ⟨b, 0, none⟩)] #[]), (Stp.mk 48 #[.pointer (some ⟨gl, 0, none⟩)] #[])] : List Stp).map Stp.v).toArray) (c : Nat) :
  Calls Tryz.prog 42 #[.slice (some ⟨gst, 0, none⟩) 3 c] w fun e V => e = .returned (.int .i64 (s.lateS d).2.2) /\ Sto F V gs gl b g1 g2 (s.lateS d).1 (s.lateS d).2.1 /\ Kp F w V := by
 have hne : gst ≠ gl := hr.type_ne h.lg (by decide)
 have hord := order_any [(Stp.mk 127 #[.pointer (some ⟨gs, 0, none⟩)] #[]), (Stp.mk 47 #[.pointer (some ⟨b, 0, none⟩)] #[]), (Stp.mk 48 #[.pointer (some ⟨gl, 0, none⟩)] #[])] gst c w
  (fun i V => Box V gst 104 (([(Stp.mk 127 #[.pointer (some ⟨gs, 0, none⟩)] #[]), (Stp.mk 47 #[.pointer (some ⟨b, 0, none⟩)] #[]), (Stp.mk 48 #[.pointer (some ⟨gl, 0, none⟩)] #[])] : List Stp).map Stp.v).toArray /\ Tbl V /\ Kp F w V /\ match i with
   |0 => Sto F V gs gl b g1 g2 s d
   |1 => Sto F V gs gl b g1 g2 s (lateR s d).1 /\ (lateR s d).2 = 0
   |2 => Sto F V gs gl b g1 g2 s (Dm.thenFlush (lateR s d)).1 /\ (Dm.thenFlush (lateR s d)).2 = 0
   |_ + 3 => Sto F V gs gl b g1 g2 (s.lateS d).1 (s.lateS d).2.1 /\ (s.lateS d).2.2 = 0)
  (fun q V => Sto F V gs gl b g1 g2 (s.lateS d).1 (s.lateS d).2.1 /\ (s.lateS d).2.2 = q /\ Kp F w V)
  (fun i V hi j st hj => by
   rw [hi.1.cell, List.getElem?_toArray, List.getElem?_map, hj]
   rfl)
  ⟨hr, tb, Kp.refl _ w, h⟩
  (fun st hst => by
   simp only [List.mem_cons, List.not_mem_nil, or_false] at hst
   rcases hst with rfl | rfl | rfl
   ·exact enters_of Tryz.func127 (by kernel_rfl) rfl
   ·exact enters_of Tryz.func47 (by kernel_rfl) rfl
   ·exact enters_of Tryz.func48 (by kernel_rfl) rfl)
  (show ((3 : Nat) : Int) <= 100 by decide)
  (fun i st V hi hI => by
   obtain ⟨row, tbl, kp, hI⟩ := hI
   have hFV : ∀ k, V.heap.size <= k -> F k := fun k hk => hF k (Nat.le_trans kp.size hk)
   match i, hi with
   |0, hi =>
    injection hi with hi
    subst hi
    have hI : Sto F V gs gl b g1 g2 s d := hI
    refine (writeLate_any hI hFV hL (by omega)).mono ?_
    rintro e V' ⟨rfl, hs, hk⟩
    refine ⟨_, rfl, ?_⟩
    have hkF := kp.trans (hk.mono fun k _ e => e.1.1)
    by_cases hz : (lateR s d).2 = 0
    ·exact .inl ⟨hz, row.kp hk (fun e => not_DT row ⟨by decide, by decide, by decide⟩ e.2), tbl.kp hk (fun e => hFT e.1.1), hkF, hs, hz⟩
    ·have ef := thenFlush_no hz
     refine .inr ⟨hz, ?_, ?_, hkF⟩
     ·unfold Sm.lateS; rw [ef, if_neg hz]; exact hs
     ·unfold Sm.lateS; rw [ef, if_neg hz]; rfl
   |1, hi =>
    injection hi with hi
    subst hi
    obtain ⟨hs0, e0⟩ : Sto F V gs gl b g1 g2 s (lateR s d).1 /\ (lateR s d).2 = 0 := hI
    refine (flush_any (F := fun k => (F k /\ k ≠ g1 /\ k ≠ g2) /\ DT V k) hs0.dk.bothG).mono ?_
    rintro e V' ⟨rfl, hd, hk⟩
    refine ⟨_, rfl, ?_⟩
    have et := thenFlush_ok e0
    have hs := hs0.turnD hk hd
    have hkF := kp.trans (hk.mono fun k _ e => e.1.1)
    rw [<- et] at hs ⊢
    by_cases hz : (Dm.thenFlush (lateR s d)).2 = 0
    ·exact .inl ⟨hz, row.kp hk (fun e => not_DT row ⟨by decide, by decide, by decide⟩ e.2), tbl.kp hk (fun e => hFT e.1.1), hkF, hs, hz⟩
    ·refine .inr ⟨hz, ?_, ?_, hkF⟩
     ·unfold Sm.lateS; rw [if_neg hz]; exact hs
     ·unfold Sm.lateS; rw [if_neg hz]
   |2, hi =>
    injection hi with hi
    subst hi
    obtain ⟨hs0, e0⟩ : Sto F V gs gl b g1 g2 s (Dm.thenFlush (lateR s d)).1 /\ (Dm.thenFlush (lateR s d)).2 = 0 := hI
    have hw1 := wait_putPg (2 + s.l.h.n) s.late (s.late.keys s.n) d
    have hw2 := thenFlush_wait (lateR s d)
    have hw3 := keys_le s.late s.n
    have hw4 := h.u.1
    have l1 := hs0.late.lt
    have l2 := hs0.chg.lt
    refine (trim_any (F := fun k => (F k /\ k ≠ g1 /\ k ≠ g2) /\ DT V k) (fun k hk => ⟨⟨hFV k hk, by omega, by omega⟩, .inl hk⟩) hs0.dk.bothG tbl hs0.lg lok (by unfold lateR at hw2 ⊢; omega)).mono ?_
    rintro e V' ⟨rfl, hd, hb, hk⟩
    refine ⟨_, rfl, ?_⟩
    have hs := hs0.turnL hk hd hb
    have hkF := kp.trans (hk.mono fun k _ e => e.elim (fun e => e.1.1) (fun e => by rw [e]; exact h.fl))
    have el : s.lateS d = ({ s with l := (s.l.trimS (Dm.thenFlush (lateR s d)).1).1 }, (s.l.trimS (Dm.thenFlush (lateR s d)).1).2.1, (s.l.trimS (Dm.thenFlush (lateR s d)).1).2.2) := by unfold Sm.lateS; rw [if_pos e0]
    by_cases hz : (s.l.trimS (Dm.thenFlush (lateR s d)).1).2.2 = 0
    ·refine .inl ⟨hz, row.kp hk (fun e => e.elim (fun e => not_DT row ⟨by decide, by decide, by decide⟩ e.2) hne), tbl.kp hk (fun e => e.elim (fun e => hFT e.1.1) (fun e => hFT (by rw [e]; exact h.fl))), hkF, ?_⟩
     show Sto F V' gs gl b g1 g2 (s.lateS d).1 (s.lateS d).2.1 /\ (s.lateS d).2.2 = 0
     rw [el]
     exact ⟨hs, hz⟩
    ·refine .inr ⟨hz, ?_, ?_, hkF⟩
     ·rw [el]; exact hs
     ·rw [el]
   |i + 3, hi => simp at hi)
 refine hord.mono ?_
 rintro e V (⟨rfl, _, _, hk, hs, hz⟩ | ⟨q, _, rfl, hs, hz, hk⟩)
 ·exact ⟨by rw [hz], hs, hk⟩
 ·exact ⟨by rw [hz], hs, hk⟩
end
end Go.Proofs.YtepaeliamhjgiaaGreatDoor
