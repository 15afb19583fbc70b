/- The statement PagesKeep answers true for every input. No condition but that the tables of the program lie as it begins. -/
import Derived.Test.YtepaeliamhjgiaaGreatDoorMu1
import Derived.Test.YtepaeliamhjgiaaGreatDoorMu51
import Derived.Test.YtepaeliamhjgiaaGreatDoorMu50
import Derived.Test.YtepaeliamhjgiaaGreatDoorMu42
import Derived.ChangeMaps5
import Derived.OpenShut
set_option maxHeartbeats 16000000
set_option maxRecDepth 100000
namespace Go.Proofs.YtepaeliamhjgiaaGreatDoor
open Go.RowKit Go.Maps Go.Shelf
theorem Box.off_box {w : World} {g k : Nat} {cs cs' : Array Value} (h : Box w g 30 cs) (hb : Box w k 39 cs') : ¬ g = k := h.type_ne hb (by decide)
theorem Rv.offX {w w' : World} {a c g k : Nat} {R : Rs} {cs : Array Value} (h : Rv w a c g R) (hb : Box w k 39 cs) (hk : Kp (fun q => q = k) w w') : Rv w' a c g R := by
 obtain ⟨cur, hr, _⟩ := h.row
 refine h.kp hk (hr.type_ne hb (by decide)) (fun e => ?_)
 rw [<- e] at hb
 exact h.ch.not_cells hb
theorem Mx.thrX {B : Nat} {F : Nat -> Prop} {w w' : World} {gx gs b a c g L k : Nat} {R : Rs} {cs : Array Value} (h : Mx B F w gx gs b a c g L R) (hb : Box w k 39 cs) (hk : Kp (fun q => q = k) w w') : Mx B (Thr F w.heap.size w'.heap.size) w' gx gs b a c g L R :=
 ⟨h.x.kp hk (h.x.type_ne hb (by decide)), h.rv.offX hb hk, fun e => h.fx e.1, fun e => h.fa e.1, fun e => h.fg e.1, fun k e => ⟨h.new k (Nat.le_trans hk.size e), .inr e⟩, fun k e => h.low k e.1⟩
theorem Dsk.thrX {F : Nat -> Prop} {w w' : World} {b k : Nat} {d : Dm} (h : Dsk F w b d) (hx : ¬ F k) (hk : Kp (fun q => q = k) w w') : Dsk (Thr F w.heap.size w'.heap.size) w' b d := by
 obtain ⟨F1, hd1, hf1⟩ := h.fit
 exact (hd1.kp hk fun q e1 e2 => hx (e2 ▸ (hf1 q e1).1)).mono fun q e => ⟨(hf1 q e).1, .inl (hf1 q e).2⟩
theorem storeInf : ∃ i, Tryz.prog.info? 39 = some i /\ i.zero = some (.agg #[.slice none 0 0, .map none]) /\ i.size = 2 /\ i.bytes = 32 := by
 have h : (Tryz.prog.info? 39).map (fun i => (i.zero, i.size, i.bytes)) = some (some (.agg #[.slice none 0 0, .map none]), 2, 32) := by kernel_rfl
 obtain ⟨i, h1, h2, h3, h4⟩ := info_parts h
 exact ⟨i, h1, h2, h3, h4⟩
theorem St.disk {d d' : Dm} {s : Sm} {L n N : Nat} {hn : List UInt8} {C : Nat -> List UInt8} (h : St d s L n hn C N) (hu : Up d') (ho : d'.on = d.on) : St d' s L n hn C N := by
 obtain ⟨ss, bs, h1, h2⟩ := h.log
 exact ⟨hu, h.alive, ⟨ss, bs, by rw [ho]; exact h1, h2⟩, h.hL, h.hh, h.hs, by rw [ho]; exact h.now, by rw [ho]; exact h.in_, h.chg⟩
theorem pkeeps_main (n : Nat) (l1 : 96 <= n) (l2 : n <= 150) (A : Option Addr) (acts : List Aw) (c : Nat) (w : World) (h : Aws w w.heap.size A acts) (hc : acts.length <= c) (hm : c <= maxLen) (hg : greatW acts = false) (tb : Tbl w) (tbb : Bt.Tbl w) :
  Calls Tryz.prog 5 #[.int .u8 n, .slice A acts.length c] w fun e w' => e = .returned (.bool true) /\ Kp (fun k => w.heap.size <= k) w w' := by
 have TB := hHd tb
 have TBB := hHd tbb
 have HC := hHd h
 have L1 := hHd l1
 have L2 := hHd l2
 have hgr := greatw_any h c hc hm
 rw [hg] at hgr
 have hl60 : acts.length <= 60 := (not_greatW hg).1
 unfold maxLen at hm
 clear tb tbb h hg
 have hd1 : ¬ ((n : Int) < 96) := by omega
 have hd2 : ¬ (150 < (n : Int)) := by omega
 clear l1 l2
 go_enter Tryz.func5, Tryz.ntmps5
 go_wp2_with fail
 refine hgr.mono ?_
 clear hgr
 rintro e w0 ⟨rfl, rfl⟩
 go_wp2_with fail
 refine (begins_any n L1.out L2.out w TB.out).mono ?_
 rintro e w1 ⟨gx, F, gs, gl, b, g1, g2, a, c', g, s, d, rfl, J, hu1, hu2, hlit, hgx, hgx2, hk1⟩
 have N1 := hHd (show Np w.heap.size w w1 gx b n 2 F gs gl g1 g2 a c' g s d (newR 128) blankC from ⟨J, hk1.of_false⟩)
 have LIT := hHd hlit
 have GX := hHd hgx
 clear J hu1 hu2 hlit hgx hgx2 hk1 hd1 hd2
 go_wp2_with fail
 clear LIT
 go_loopw [7] (fun s7 wr => ∃ k : Nat, k <= acts.length /\ s7 = .int .i64 k /\ ∃ (F : Nat -> Prop) (gs gl g1 g2 a c g : Nat) (s : Sm) (d : Dm) (R : Rs) (C : Nat -> List UInt8), Np w.heap.size w wr gx b n (2 + 700 * k) F gs gl g1 g2 a c g s d R C) (fun s7 _ => acts.length - (Go.RowKit.intOf s7).toNat)
 case atStart => exact ⟨0, Nat.zero_le _, rfl, _, _, _, _, _, _, _, _, _, _, _, _, N1.out⟩
 case round =>
  clear N1
  obtain ⟨k, hkl, rfl, F, gs, gl, g1, g2, a, c', g, s, d, R, C, hnp⟩ := hrel
  have NP := hHd hnp
  clear hnp
  by_cases hlt : k < acts.length
  ·obtain ⟨bA, oA, hA, _, hcell⟩ : ∃ b o, A = some ⟨b, o, none⟩ /\ b < w.heap.size /\ ∀ i x, acts[i]? = some x -> ∀ j v, x.cells[j]? = some v -> wr.cell? ⟨b, o + i * 4 + j, none⟩ = some v := by
    rcases (HC.out.keep (fun q hq => NP.out.kp.block q hq (by omega))).2 with h0 | h0
    ·subst h0; simp at hlt
    ·exact h0
   subst hA
   obtain ⟨x, hx⟩ : ∃ x, acts[k]? = some x := ⟨_, List.getElem?_eq_getElem hlt⟩
   have e0 : wr.cell? ⟨bA, oA + k * 4, none⟩ = some (.int .u8 x.d) := hcell k x hx 0 _ rfl
   have e1 : wr.cell? ⟨bA, oA + k * 4 + 1, none⟩ = some (.int .i64 x.n) := hcell k x hx 1 _ rfl
   have e2 : wr.cell? ⟨bA, oA + k * 4 + 2, none⟩ = some (.int .u8 x.c.toNat) := hcell k x hx 2 _ rfl
   have e3 : wr.cell? ⟨bA, oA + k * 4 + 3, none⟩ = some (.string ⟨x.keep.toArray⟩) := hcell k x hx 3 _ rfl
   have HOK := hHd (HC.out.1 x (List.mem_of_getElem? hx))
   have HKL := hHd (show k < 60 by omega)
   obtain ⟨pA, hpA⟩ : ∃ p, oA + k * 4 = p := ⟨_, rfl⟩
   rw [hpA] at e0 e1 e2 e3
   clear hcell hx
   go_upto_region 10 with fail
   obtain ⟨W1, hW1, ba, k1⟩ : ∃ W1, W1 = wr.alloc (.cells x.cells 30) /\ Box W1 wr.heap.size 30 x.cells /\ Kp (fun _ => False) wr W1 := ⟨_, rfl, Box.new wr _ _, (Kp.refl _ wr).alloc _⟩
   rw [show wr.alloc (.cells #[.int .u8 x.d, .int .i64 x.n, .int .u8 x.c.toNat, .string ⟨x.keep.toArray⟩] 30) = W1 from hW1.symm]
   have M1 := hHd (NP.out.j.m.thr k1)
   have S1 := hHd (NP.out.j.sto.thr k1)
   have hgl := ba.lt
   obtain ⟨F1, hF1⟩ : ∃ F1, Thr F wr.heap.size W1.heap.size = F1 := ⟨_, rfl⟩
   obtain ⟨ga, hga⟩ : ∃ ga, wr.heap.size = ga := ⟨_, rfl⟩
   have NA1 := hHd (show ¬ F1 ga from fun e => by rw [<- hF1] at e; exact Thr.out (by omega) (by omega) e)
   have SUB1 := hHd (show ∀ k, F1 k -> F k from fun k e => by rw [<- hF1] at e; exact e.1)
   rw [hF1] at M1 S1
   rw [hga] at ba
   try rw [hga]
   have A1 := hHd ba
   have K1 := hHd (NP.out.kp.trans k1.of_false)
   clear hW1 ba k1 hgl hF1 hga hpA e0 e1 e2 e3
   go_upto_region 11 with (first | (refine wpList_load_mid rfl 39 (.tmp 42) rfl gx 2 rfl (rsV a c' g R) _ M1.out.rs Tryz.underlying39 rfl (infoRs _ _ _ _) ?_) | (refine dwpList_store_box rfl 39 (.tmp 9) (.tmp 43) rfl W1.heap.size (rsV a c' g R) rfl rfl (Box.new W1 39 #[.slice none 0 0, .map none]) (by kernel_rfl) (infoRs _ _ _ _) (rsV_one _ _ _ _) ?_; intro w2 hb2 hk2) | fail)
   have k2 : Kp (fun _ => False) W1 w2 := ((Kp.refl (fun _ => False) W1).alloc (.cells #[.slice none 0 0, .map none] 39)).trans_new hk2 (fun q e => .inl (by omega))
   have M2 := hHd (M1.out.thr k2)
   have S2 := hHd (S1.out.thr k2)
   have hgl := hb2.lt
   obtain ⟨F2, hF2⟩ : ∃ F2, Thr F1 W1.heap.size w2.heap.size = F2 := ⟨_, rfl⟩
   obtain ⟨gw, hgw⟩ : ∃ gw, W1.heap.size = gw := ⟨_, rfl⟩
   have NW2 := hHd (show ¬ F2 gw from fun e => by rw [<- hF2] at e; exact Thr.out (by omega) (by omega) e)
   have NA2 := hHd (show ¬ F2 ga from fun e => by rw [<- hF2] at e; exact NA1.out e.1)
   have SUB2 := hHd (show ∀ k, F2 k -> F k from fun k e => by rw [<- hF2] at e; exact SUB1.out k e.1)
   rw [hF2] at M2 S2
   rw [hgw] at hb2
   try rw [hgw]
   have A2 := hHd (A1.out.kp k2 (fun e => e))
   have BW2 := hHd hb2
   have K2 := hHd (K1.out.trans k2.of_false)
   clear hb2 hk2 k2 hgl hF2 hgw
   try simp only [Act.put]
   have hBB : 2 + 700 * k + 2000 < 18446744073709551616 := by have := HKL.out; omega
   have y0 : w2.cell? ⟨ga, 0, none⟩ = some (.int .u8 x.d) := A2.out.cell 0
   have GNW := hHd (show gw ≠ gx from BW2.out.type_ne M2.out.x (by decide))
   have GNA := hHd (show ga ≠ gx from A2.out.type_ne M2.out.x (by decide))
   obtain ⟨xd, hxd⟩ : ∃ xd, x.d = xd := ⟨_, rfl⟩
   rw [hxd] at y0
   have HXD := hHd hxd
   clear hxd
   by_cases h6 : xd = 6
   ·subst h6
    go_upto_region 12 with fail
    have kd0 : Kp (fun _ => False) w2 w2.drew := (Kp.refl _ _).drew
    refine wp_region_held_drew (S := fun v => v.cell? ⟨gx, 0, none⟩ = some (.pointer (some ⟨b, 0, none⟩)) /\ Box v ga 30 x.cells) (by kernel_rfl) (⟨(M2.out.still kd0).cells.1, A2.out.kp kd0 (fun e => e)⟩) (fun hHeld => ?_)
    refine tk 0 (h := ?_)
    refine tk 1 (h := ?_)
    refine tk 2 (h := ?_)
    refine tk 3 (v := ?_) (hy := ?_) (h := ?_)
    rotate_left
    ·intro v hSw
     have y := hSw.1
     go_simp
     with_reducible rfl
    refine tk 4 (h := ?_)
    refine tk 5 (v := ?_) (hy := ?_) (h := ?_)
    rotate_left
    ·intro v hSw
     have y : v.cell? ⟨ga, 1, none⟩ = some (.int .i64 x.n) := hSw.2.cell 1
     go_simp
     with_reducible rfl
    refine tk 6 (h := ?_)
    refine tk 7 (v := ?_) (hy := ?_) (h := ?_)
    rotate_left
    ·intro v hSw
     have y : v.cell? ⟨ga, 3, none⟩ = some (.string ⟨x.keep.toArray⟩) := hSw.2.cell 3
     go_simp
     with_reducible rfl
    refine rd 8 (h := fun K hK => ?_)
    go_simp
    have S2d := S2.out.still kd0
    refine (fuse_any S2d.dk.bothG x.n (by have := HOK.out.n1; omega) x.keep HOK.out.k1).mono ?_
    rintro e w3 ⟨rfl, hd3, hk3⟩
    have S3 := hHd (S2d.turnD hk3 hd3)
    have M3 := hHd ((M2.out.still kd0).kp (hk3.mono fun q _ e => e.1.1))
    have A3 := hHd ((A2.out.kp kd0 (fun e => e)).kp hk3 (fun e => NA2.out e.1.1))
    have K3 := hHd (K2.out.trans (kd0.of_false.trans (hk3.mono fun q _ e => M2.out.low q e.1.1)))
    clear hd3 hk3 S2d
    go_wp2_with fail
    refine hK.out _ _ (⟨M3.out.cells.1, A3.out⟩) (fun hHeld52 => ?_)
    clear hK K
    try simp only [Act.put, sIa, sI0, sI1]
    refine wpAnyH_done (by kernel_rfl) ?_ _
    clear hHeld kd0
    have hdd : Up (d.fuseS x.n x.keep).1 /\ (d.fuseS x.n x.keep).1.on = d.on := by
     have hup := NP.out.j.st.up
     unfold Dm.fuseS
     split
     ·exact ⟨⟨hup.power, hup.wait⟩, rfl⟩
     ·exact ⟨hup, rfl⟩
    have NN := hHd (show Np w.heap.size w w3 gx b n (2 + 700 * (k + 1)) F2 gs gl g1 g2 a c' g s (d.fuseS x.n x.keep).1 R C from ⟨⟨M3.out, S3.out, (NP.out.j.st.disk hdd.1 hdd.2).mono (by omega), NP.out.j.rel, NP.out.j.note⟩, K3.out⟩)
    clear hdd
    go_wp2_with fail
    go_roundw
    case rel => exact ⟨k + 1, by omega, by go_num, _, _, _, _, _, _, _, _, _, _, _, _, NN.out⟩
    case measure => simp [Go.RowKit.intOf]; omega
   have n6 : (xd == 6) = false := by simpa using h6
   by_cases h7 : xd = 7
   ·subst h7
    go_upto_region 14 with fail
    clear n6 h6 y0
    have kd0 : Kp (fun _ => False) w2 w2.drew := (Kp.refl _ _).drew
    refine wp_region_held_drew (S := fun v => v.cell? ⟨gx, 0, none⟩ = some (.pointer (some ⟨b, 0, none⟩)) /\ Box v ga 30 x.cells) (by kernel_rfl) (⟨(M2.out.still kd0).cells.1, A2.out.kp kd0 (fun e => e)⟩) (fun hHeld => ?_)
    refine tk 0 (h := ?_)
    refine tk 1 (h := ?_)
    refine tk 2 (h := ?_)
    refine tk 3 (v := ?_) (hy := ?_) (h := ?_)
    rotate_left
    ·intro v hSw
     have y := hSw.1
     go_simp
     with_reducible rfl
    refine tk 4 (h := ?_)
    refine tk 5 (v := ?_) (hy := ?_) (h := ?_)
    rotate_left
    ·intro v hSw
     have y : v.cell? ⟨ga, 3, none⟩ = some (.string ⟨x.keep.toArray⟩) := hSw.2.cell 3
     go_simp
     with_reducible rfl
    refine rd 6 (h := fun K hK => ?_)
    go_simp
    have S2d := S2.out.still kd0
    refine (crash_any S2d.dk.bothG x.keep HOK.out.k1).mono ?_
    rintro e w3 ⟨rfl, hd3, hk3⟩
    have S3 := hHd (S2d.turnD hk3 hd3)
    have M3 := hHd ((M2.out.still kd0).kp (hk3.mono fun q _ e => e.1.1))
    have A3 := hHd ((A2.out.kp kd0 (fun e => e)).kp hk3 (fun e => NA2.out e.1.1))
    have BW3 := hHd ((BW2.out.kp kd0 (fun e => e)).kp hk3 (fun e => NW2.out e.1.1))
    have K3 := hHd (K2.out.trans (kd0.of_false.trans (hk3.mono fun q _ e => M2.out.low q e.1.1)))
    clear hd3 hk3 S2d
    go_wp2_with fail
    refine hK.out _ _ (⟨M3.out.cells.1, A3.out⟩) (fun hHeld53 => ?_)
    clear hK K
    try simp only [Act.put, sIa, sI0, sI1]
    refine wpAnyH_done (by kernel_rfl) ?_ _
    clear hHeld kd0
    obtain ⟨d3, hd3e⟩ : ∃ d3, (d.crashS x.keep).1 = d3 := ⟨_, rfl⟩
    rw [hd3e] at S3
    have hcr : d.crashS x.keep = (d.lose x.keep, 0) := by
     unfold Dm.crashS
     rw [NP.out.j.st.up.power]
     rfl
    have he3 : d3 = d.lose x.keep := by rw [<- hd3e, hcr]
    rw [hcr]
    obtain ⟨F3, hF3⟩ : ∃ F3, F2 = F3 := ⟨_, rfl⟩
    have D3 := hHd (show Dsk F2 w3 b d3 from S3.out.dk.mono fun k e => e.1)
    have OF3 := hHd (show Off d3 by rw [he3]; exact lose_off _ _)
    have RW3 := hHd M3.out.rv
    have SUB3X := hHd (show ∀ k, F3 k -> F2 k from fun k e => by rw [hF3]; exact e)
    have hon3 : d3.on = d.on := by
     rw [he3]
     unfold Dm.lose
     rw [NP.out.j.st.up.wait]
     rfl
    have HC1 := hHd (show ∃ C1 u1, Rc d3.on n 128 hnB C1 (2 + 700 * k + 600) /\ Cm C1 u1 128 /\ ((∀ z, z < 128 -> R.pg.getD z [] = C1 z) \/ ((7 : Int) = 3 /\ ∀ z, z < 128 -> R.comR.pg.getD z [] = C1 z)) from ⟨C, s.used, by rw [hon3]; exact NP.out.j.st.rc.mono (by omega), NP.out.j.rel.cm, .inl NP.out.j.rel.pg⟩)
    rw [hF3] at M3 D3
    clear hcr hd3e he3 hon3 S3 hF3
    have yb := M3.out.cells.1
    have y0 := A3.out.cell 0
    rw [show x.cells[0]? = some (Value.int .u8 x.d) from rfl, HXD.out] at y0
    go_wp2_with fail
    refine (alive_any D3.out).mono ?_
    rw [OF3.out.power]
    rintro e wz ⟨rfl, rfl⟩
    clear yb
    go_wp2_with (first | (refine wpList_load_mid rfl 39 (.tmp 9) rfl gw 0 rfl (rsV a c' g R) _ (Box.range' BW3.out) Tryz.underlying39 rfl (infoRs _ _ _ _) ?_) | fail)
    refine (rabort_any RW3.out).mono ?_
    rintro e w5 ⟨g4, rfl, hr4, hg4, hk5⟩
    have A5 := hHd (A3.out.kp hk5 (fun e => e))
    have BW5 := hHd (BW3.out.kp hk5 (fun e => e))
    have R5 := hHd hr4
    have HG4 := hHd hg4
    have HK5 := hHd hk5
    clear hr4 hg4 hk5 y0
    unfold rsV
    go_upto_region 19 with fail
    obtain ⟨w6, hw6, bm, k6⟩ : ∃ w6, w6 = w5.alloc (.cells (rsV a c' g4 ⟨R.pg, bnone⟩).toArray 39) /\ Box w6 w5.heap.size 39 (rsV a c' g4 ⟨R.pg, bnone⟩).toArray /\ Kp (fun _ => False) w5 w6 := ⟨_, rfl, Box.new w5 _ _, (Kp.refl _ w5).alloc _⟩
    rw [show w5.alloc (.cells #[.slice (some ⟨a, 0, none⟩) R.pg.length c', .map (some g4)] 39) = w6 from hw6.symm]
    have kk := HK5.out.trans k6
    have M6 := hHd (M3.out.thr kk)
    have D6 := hHd (D3.out.thr kk)
    have hl6 := bm.lt
    have h35 := HK5.out.size
    obtain ⟨gm, hgm⟩ : ∃ gm, w5.heap.size = gm := ⟨_, rfl⟩
    have R6 := hHd (R5.out.still k6)
    have NG6 := hHd (show ¬ Thr F3 w3.heap.size w6.heap.size g4 from Thr.out HG4.out R6.out.lt.2)
    have NM6 := hHd (show ¬ Thr F3 w3.heap.size w6.heap.size gm from Thr.out (by omega) (by omega))
    have A6 := hHd (A5.out.kp k6 (fun e => e))
    have BW6 := hHd (BW5.out.kp k6 (fun e => e))
    have RW6 := hHd (RW3.out.still kk)
    have K6 := hHd (K3.out.trans kk.of_false)
    have GEM := hHd (show w3.heap.size <= gm by omega)
    rw [hgm] at bm
    try rw [hgm]
    have BM6 := hHd bm
    obtain ⟨F6, hF6⟩ : ∃ F6, Thr F3 w3.heap.size w6.heap.size = F6 := ⟨_, rfl⟩
    rw [hF6] at M6 D6 NG6 NM6
    have SUB6 := hHd (show ∀ k, F6 k -> F3 k from fun k e => by rw [<- hF6] at e; exact e.1)
    have LOC6 := hHd (show ∀ k, F6 k -> k < w3.heap.size \/ w6.heap.size <= k from fun k e => by rw [<- hF6] at e; exact e.2)
    have NAW6 := hHd (show ¬ F6 a from fun e => M2.out.fa (SUB3X.out _ (SUB6.out _ e)))
    have NGW6 := hHd (show ¬ F6 g from fun e => M2.out.fg (SUB3X.out _ (SUB6.out _ e)))
    clear hw6 bm k6 kk hl6 h35 hgm hF6
    have GMX := hHd (show gm ≠ gx from BM6.out.type_ne M6.out.x (by decide))
    have y0 := A6.out.cell 0
    rw [show x.cells[0]? = some (Value.int .u8 x.d) from rfl, HXD.out] at y0
    obtain ⟨C1, u1, hrc1, hcm1, hex1⟩ := HC1.out
    have RC1 := hHd hrc1
    have CM1 := hHd hcm1
    have HE1 := hHd hex1
    clear hrc1 hcm1 hex1
    have HEX1 := hHd (HE1.out.resolve_right fun h => absurd h.1 (by decide))
    have hag := again_any (u := u1) (gm := gm) (cm := 1) M6.out D6.out OF3.out RC1.out CM1.out (by have := HKL.out; omega) x HOK.out (TB.out.kp K6.out (fun e => by have := tbl_low TB.out; omega)) (tbl_low TB.out) GX.out [⟨a, c', g4, ⟨R.pg, bnone⟩⟩] (by simp) (fun W hk i q hq => by
     match i, hq with
     |0, hq =>
      injection hq with hq
      rw [<- hq]
      exact Box.range' (BM6.out.kp hk (fun e => e.elim NM6.out GMX.out))
     |i + 1, hq => simp at hq) (fun W hk i q hq => by
     match i, hq with
     |0, hq =>
      injection hq with hq
      rw [<- hq]
      exact R6.out.kp hk (fun e => e.elim NAW6.out (M6.out.ne R6.out).1) (fun e => e.elim NG6.out (M6.out.ne R6.out).2)
     |i + 1, hq => simp at hq) (fun i q hq => by
     match i, hq with
     |0, hq =>
      injection hq with hq
      rw [<- hq]
      exact ⟨NAW6.out, NG6.out, NP.out.j.rel.len, rfl⟩
     |i + 1, hq => simp at hq) ⟨_, List.mem_singleton.2 rfl, HEX1.out⟩
    have HAG := hHd hag
    clear hag
    go_wp2_with (first | (refine wpList_load_mid rfl 30 (.tmp 8) rfl ga 0 rfl x.cells.toList _ (Box.range' (L := x.cells.toList) A6.out) Tryz.underlying30 rfl (by kernel_rfl) ?_) | fail)
    refine HAG.out.mono ?_
    clear y0
    rintro e w10 ⟨hk10, F10, hsub10, rfl, gs10, gl10, g110, g210, a10, c10, g10, s10, d10, R10, hm10, hs10, hst10, hrl10, hn10⟩
    have NN := hHd (show Np w.heap.size w w10 gx b n (2 + 700 * (k + 1)) F10 gs10 gl10 g110 g210 a10 c10 g10 s10 d10 R10 C1 from ⟨⟨hm10, hs10, hst10.mono (by omega), hrl10, hn10⟩, K6.out.trans (hk10.mono fun q _ e => e.elim (fun e => M6.out.low q e) (fun e => by have := GX.out; omega))⟩)
    clear hk10 hsub10 hm10 hs10 hst10 hrl10 hn10 HAG
    go_wp2_with fail
    go_roundw
    case rel => exact ⟨k + 1, by omega, by go_num, _, _, _, _, _, _, _, _, _, _, _, _, NN.out⟩
    case measure => simp [Go.RowKit.intOf]; omega
   have n7 : (xd == 7) = false := by simpa using h7
   go_upto_region 15 with fail
   clear n6 n7 h6 h7 y0
   have hdo := does_any ⟨M2.out, S2.out, NP.out.j.st, NP.out.j.rel, NP.out.j.note⟩ hBB x HOK.out (TB.out.kp K2.out (fun e => by have := tbl_low TB.out; omega)) (TBB.out.kp K2.out (fun e => by have := btbl_low TBB.out; omega)) (tbl_low TB.out) (btbl_low TBB.out) GX.out
   have HDO := hHd hdo
   clear hdo
   go_wp2_with (first | (refine wpList_load_mid rfl 30 (.tmp 8) rfl ga 0 rfl x.cells.toList _ (Box.range' (L := x.cells.toList) A2.out) Tryz.underlying30 rfl (by kernel_rfl) ?_) | fail)
   refine HDO.out.mono ?_
   rintro e w3 ⟨hk3, F3, hsub, ⟨rfl, gs2, gl2, q1, q2, a2, c2, g2', s2, d2, R2, C2, hj, hcc, hlit⟩ | ⟨⟨r, rfl⟩, hl, d3, hz, hrc⟩⟩
   ·have NN := hHd (show Np w.heap.size w w3 gx b n (2 + 700 * (k + 1)) F3 gs2 gl2 q1 q2 a2 c2 g2' s2 d2 R2 C2 from ⟨⟨hj.m, hj.sto, hj.st.mono (by omega), hj.rel, hj.note⟩, K2.out.trans (hk3.mono fun q _ e => e.elim (fun e => M2.out.low q e) (fun e => by have := GX.out; omega))⟩)
    have y := hj.m.cells.1
    have AL := hHd (alive_any (hj.sto.dk.mono (fun k e => e.1) : Dsk F3 w3 b d2))
    rw [hj.st.up.power] at AL
    clear hk3 hsub hj hcc hlit HDO
    go_wp2_with fail
    refine AL.out.mono ?_
    rintro e w4 ⟨rfl, rfl⟩
    clear y
    go_wp2_with fail
    go_roundw
    case rel => exact ⟨k + 1, by omega, by go_num, _, _, _, _, _, _, _, _, _, _, _, _, NN.out⟩
    case measure => simp [Go.RowKit.intOf]; omega
   ·obtain ⟨⟨gs3, a3, c3, g3, R3, hm3⟩, hd3, hof3⟩ := hz
    have M3 := hHd hm3
    have D3 := hHd hd3
    have OF3 := hHd hof3
    have SUB3X := hHd (show ∀ k, F3 k -> F2 k from hsub)
    have K3 := hHd (K2.out.trans (hk3.mono fun q _ e => e.elim (fun e => M2.out.low q e) (fun e => by have := GX.out; omega)))
    have A3 := hHd (A2.out.kp hk3 (fun e => e.elim NA2.out GNA.out))
    have BW3 := hHd (BW2.out.kp hk3 (fun e => e.elim NW2.out GNW.out))
    have RW3 := hHd (M2.out.rv.kp hk3 (fun e => e.elim M2.out.fa (M2.out.ne M2.out.rv).1) (fun e => e.elim M2.out.fg (M2.out.ne M2.out.rv).2))
    have HC1 := hHd (show ∃ C1 u1, Rc d3.on n 128 hnB C1 (2 + 700 * k + 600) /\ Cm C1 u1 128 /\ ((∀ z, z < 128 -> R.pg.getD z [] = C1 z) \/ (xd = 3 /\ ∀ z, z < 128 -> R.comR.pg.getD z [] = C1 z)) from by
     rcases hrc with hrc | ⟨h3, hrc⟩
     ·exact ⟨C, s.used, hrc, NP.out.j.rel.cm, .inl NP.out.j.rel.pg⟩
     ·have hcm := NP.out.j.rel.commit (by decide) (s' := { s with used := s.cused, chg := bnone }) rfl rfl rfl
      rw [NP.out.j.rel.chg] at hrc
      exact ⟨nowC C s.chg, s.cused, hrc, NP.out.j.rel.cmNow (by decide), .inr ⟨by rw [<- HXD.out]; exact of_decide_eq_true h3, hcm.pg⟩⟩)
    clear hk3 hsub hm3 hd3 hof3 hl hrc HDO
    rcases r with _ | _
    ·have yb := M3.out.cells.1
     go_wp2_with fail
     refine (alive_any D3.out).mono ?_
     rw [OF3.out.power]
     rintro e wz ⟨rfl, rfl⟩
     clear yb
     have yb := M3.out.cells.1
     have y0 := A3.out.cell 0
     rw [show x.cells[0]? = some (Value.int .u8 x.d) from rfl, HXD.out] at y0
     go_wp2_with fail
     refine (alive_any D3.out).mono ?_
     rw [OF3.out.power]
     rintro e wz ⟨rfl, rfl⟩
     clear yb
     go_wp2_with (first | (refine wpList_load_mid rfl 39 (.tmp 9) rfl gw 0 rfl (rsV a c' g R) _ (Box.range' BW3.out) Tryz.underlying39 rfl (infoRs _ _ _ _) ?_) | fail)
     refine (rabort_any RW3.out).mono ?_
     rintro e w5 ⟨g4, rfl, hr4, hg4, hk5⟩
     have A5 := hHd (A3.out.kp hk5 (fun e => e))
     have BW5 := hHd (BW3.out.kp hk5 (fun e => e))
     have R5 := hHd hr4
     have HG4 := hHd hg4
     have HK5 := hHd hk5
     clear hr4 hg4 hk5 y0
     unfold rsV
     go_upto_region 19 with fail
     obtain ⟨w6, hw6, bm, k6⟩ : ∃ w6, w6 = w5.alloc (.cells (rsV a c' g4 ⟨R.pg, bnone⟩).toArray 39) /\ Box w6 w5.heap.size 39 (rsV a c' g4 ⟨R.pg, bnone⟩).toArray /\ Kp (fun _ => False) w5 w6 := ⟨_, rfl, Box.new w5 _ _, (Kp.refl _ w5).alloc _⟩
     rw [show w5.alloc (.cells #[.slice (some ⟨a, 0, none⟩) R.pg.length c', .map (some g4)] 39) = w6 from hw6.symm]
     have kk := HK5.out.trans k6
     have M6 := hHd (M3.out.thr kk)
     have D6 := hHd (D3.out.thr kk)
     have hl6 := bm.lt
     have h35 := HK5.out.size
     obtain ⟨gm, hgm⟩ : ∃ gm, w5.heap.size = gm := ⟨_, rfl⟩
     have R6 := hHd (R5.out.still k6)
     have NG6 := hHd (show ¬ Thr F3 w3.heap.size w6.heap.size g4 from Thr.out HG4.out R6.out.lt.2)
     have NM6 := hHd (show ¬ Thr F3 w3.heap.size w6.heap.size gm from Thr.out (by omega) (by omega))
     have A6 := hHd (A5.out.kp k6 (fun e => e))
     have BW6 := hHd (BW5.out.kp k6 (fun e => e))
     have RW6 := hHd (RW3.out.still kk)
     have K6 := hHd (K3.out.trans kk.of_false)
     have GEM := hHd (show w3.heap.size <= gm by omega)
     rw [hgm] at bm
     try rw [hgm]
     have BM6 := hHd bm
     obtain ⟨F6, hF6⟩ : ∃ F6, Thr F3 w3.heap.size w6.heap.size = F6 := ⟨_, rfl⟩
     rw [hF6] at M6 D6 NG6 NM6
     have SUB6 := hHd (show ∀ k, F6 k -> F3 k from fun k e => by rw [<- hF6] at e; exact e.1)
     have LOC6 := hHd (show ∀ k, F6 k -> k < w3.heap.size \/ w6.heap.size <= k from fun k e => by rw [<- hF6] at e; exact e.2)
     have NAW6 := hHd (show ¬ F6 a from fun e => M2.out.fa (SUB3X.out _ (SUB6.out _ e)))
     have NGW6 := hHd (show ¬ F6 g from fun e => M2.out.fg (SUB3X.out _ (SUB6.out _ e)))
     clear hw6 bm k6 kk hl6 h35 hgm hF6
     have GMX := hHd (show gm ≠ gx from BM6.out.type_ne M6.out.x (by decide))
     have y0 := A6.out.cell 0
     rw [show x.cells[0]? = some (Value.int .u8 x.d) from rfl, HXD.out] at y0
     obtain ⟨C1, u1, hrc1, hcm1, hex1⟩ := HC1.out
     have RC1 := hHd hrc1
     have CM1 := hHd hcm1
     have HE1 := hHd hex1
     clear hrc1 hcm1 hex1
     by_cases h3 : xd = 3
     ·subst h3
      go_upto_region 20 with fail
      clear y0
      go_wp2_with (first | (refine wpList_load_mid rfl 39 (.tmp 9) rfl gw 0 rfl (rsV a c' g R) _ (Box.range' BW6.out) Tryz.underlying39 rfl (infoRs _ _ _ _) ?_) | fail)
      refine (rcommit_any RW6.out).mono ?_
      rintro e w7 ⟨a5, c5, g5, rfl, hr7, ha7, hg7, hk7⟩
      have R7 := hHd hr7
      have HA7 := hHd ha7
      have HG7 := hHd hg7
      have HK7 := hHd hk7
      have BM7 := hHd (BM6.out.kp hk7 (fun e => e))
      clear hr7 ha7 hg7 hk7
      unfold rsV
      obtain ⟨iS, s1, s2, s3, s4⟩ := storeInf
      have OWN7 := hHd (show w7.ownsRow w3.heap.size 39 2 (.slice (some ⟨gm, 0, none⟩) 1 1) 1 (rsV a c' g4 ⟨R.pg, bnone⟩) from ⟨rfl, .inr ⟨gm, 1, _, rfl, GEM.out, BM7.out, Nat.le_refl _, by decide, rfl, rfl⟩⟩)
      go_upto_region 21 with (first | (at_builtin; refine wpList_append_own _ rfl (.tmp 88) (.tmp 91) 62 rfl w3.heap.size 39 iS _ 2 32 Tryz.underlying62 s1 s2 s3 s4 rfl (by decide) (.slice (some ⟨gm, 0, none⟩) 1 1) 1 (rsV a c' g4 ⟨R.pg, bnone⟩) rfl (OWN7.out.alloc _) ⟨w7.heap.size, 0, none⟩ 1 1 (rsV a5 c5 g5 R.comR) rfl rfl (World.news_of_block (heap_alloc_new w7 _)) (rsV_one _ _ _ _) (by unfold maxLen; omega) (by omega) (by have := HK7.out.size; have := BM6.out.lt; have := GEM.out; rw [World.size_alloc]; omega) ?_; intro v8 w8 hown8 hg8 hnn8; have HO8 := hHd hown8; have K8 := hHd (((Kp.refl (fun q => q = gm) w7).alloc (.cells #[.slice (some ⟨a5, 0, none⟩) R.comR.pg.length c5, .map (some g5)] 39)).grown hg8 (fun q e => .inr (by simpa [Value.ownBlock] using e.symm))); clear hown8 hg8 hnn8) | fail)
      obtain ⟨gn, cn, rfl, hgn1, hgn2⟩ := HO8.out.form (by decide)
      have kk8 : Kp (fun q => q = gm) w6 w8 := HK7.out.of_false.trans K8.out
      have A8 := hHd ((A6.out.kp HK7.out (fun e => e)).kp K8.out (fun e => (A6.out.kp HK7.out (fun e => e)).off_box BM7.out e))
      have M8 := hHd (M6.out.thrX BM6.out kk8)
      have D8 := hHd (D6.out.thrX NM6.out kk8)
      have K8X := hHd (K6.out.trans (kk8.mono fun q _ e => by have := GEM.out; have := K3.out.size; omega))
      have R6X := hHd (R6.out.offX BM6.out kk8)
      have R7X := hHd (R7.out.offX BM7.out K8.out)
      have GNX := hHd (show gn ≠ gx from by obtain ⟨cur, hc⟩ := own_block HO8.out rfl; exact Box.type_ne (t := 39) hc M8.out.x (by decide))
      have NN8 := hHd (show ¬ Thr F6 w6.heap.size w8.heap.size gn from fun e => by have := LOC6.out gn e.1; have := e.2; omega)
      have NA58 := hHd (show ¬ Thr F6 w6.heap.size w8.heap.size a5 from Thr.out HA7.out R7X.out.lt.1)
      have NG58 := hHd (show ¬ Thr F6 w6.heap.size w8.heap.size g5 from Thr.out HG7.out R7X.out.lt.2)
      have NG48 := hHd (show ¬ Thr F6 w6.heap.size w8.heap.size g4 from fun e => NG6.out e.1)
      have NA8 := hHd (show ¬ Thr F6 w6.heap.size w8.heap.size a from fun e => NAW6.out e.1)
      have LEN5 := hHd (show R.comR.pg.length = 128 from (comR_length R).trans NP.out.j.rel.len)
      obtain ⟨F8, hF8⟩ : ∃ F8, Thr F6 w6.heap.size w8.heap.size = F8 := ⟨_, rfl⟩
      rw [hF8] at M8 D8 NN8 NA58 NG58 NG48 NA8
      clear kk8 hgn1 hgn2 hF8 OWN7 BM7 HK7 HA7 HG7 R7 K8 s1 s2 s3 s4
      have y0 := A8.out.cell 0
      have hag := again_any (u := u1) (gm := gn) (cm := cn) M8.out D8.out OF3.out RC1.out CM1.out (by have := HKL.out; omega) x HOK.out (TB.out.kp K8X.out (fun e => by have := tbl_low TB.out; omega)) (tbl_low TB.out) GX.out [⟨a, c', g4, ⟨R.pg, bnone⟩⟩, ⟨a5, c5, g5, R.comR⟩] (by simp) (fun W hk i q hq => by
       have ho := down_kp HO8.out hk (fun q e1 e2 => by
        simp only [Value.ownBlock, Option.some.injEq] at e1
        subst e1
        exact e2.elim NN8.out GNX.out)
       match i, hq with
       |0, hq =>
        injection hq with hq
        rw [<- hq]
        exact own_range ho (0 * 2) (fun j v hj => by
         match j, hj with
         |0, hj => exact hj
         |1, hj => exact hj
         |j + 2, hj => simp [rsV] at hj)
       |1, hq =>
        injection hq with hq
        rw [<- hq]
        exact own_range ho (1 * 2) (fun j v hj => by
         match j, hj with
         |0, hj => exact hj
         |1, hj => exact hj
         |j + 2, hj => simp [rsV] at hj)
       |i + 2, hq => simp at hq) (fun W hk i q hq => by
       match i, hq with
       |0, hq =>
        injection hq with hq
        rw [<- hq]
        exact R6X.out.kp hk (fun e => e.elim NA8.out (M8.out.ne R6X.out).1) (fun e => e.elim NG48.out (M8.out.ne R6X.out).2)
       |1, hq =>
        injection hq with hq
        rw [<- hq]
        exact R7X.out.kp hk (fun e => e.elim NA58.out (M8.out.ne R7X.out).1) (fun e => e.elim NG58.out (M8.out.ne R7X.out).2)
       |i + 2, hq => simp at hq) (fun i q hq => by
       match i, hq with
       |0, hq =>
        injection hq with hq
        rw [<- hq]
        exact ⟨NA8.out, NG48.out, NP.out.j.rel.len, rfl⟩
       |1, hq =>
        injection hq with hq
        rw [<- hq]
        exact ⟨NA58.out, NG58.out, LEN5.out, rfl⟩
       |i + 2, hq => simp at hq) (HE1.out.elim (fun h => ⟨_, List.mem_cons_self, h⟩) (fun h => ⟨_, List.mem_cons_of_mem _ (List.mem_singleton.2 rfl), h.2⟩))
      have HAG := hHd hag
      clear hag
      go_wp2_with (first | (refine wpList_load_mid rfl 30 (.tmp 8) rfl ga 0 rfl x.cells.toList _ (Box.range' (L := x.cells.toList) A8.out) Tryz.underlying30 rfl (by kernel_rfl) ?_) | fail)
      refine HAG.out.mono ?_
      clear y0
      rintro e w10 ⟨hk10, F10, hsub10, rfl, gs10, gl10, g110, g210, a10, c10, g10, s10, d10, R10, hm10, hs10, hst10, hrl10, hn10⟩
      have NN := hHd (show Np w.heap.size w w10 gx b n (2 + 700 * (k + 1)) F10 gs10 gl10 g110 g210 a10 c10 g10 s10 d10 R10 C1 from ⟨⟨hm10, hs10, hst10.mono (by omega), hrl10, hn10⟩, K8X.out.trans (hk10.mono fun q _ e => e.elim (fun e => M8.out.low q e) (fun e => by have := GX.out; omega))⟩)
      clear hk10 hsub10 hm10 hs10 hst10 hrl10 hn10 HAG
      go_wp2_with fail
      go_roundw
      case rel => exact ⟨k + 1, by omega, by go_num, _, _, _, _, _, _, _, _, _, _, _, _, NN.out⟩
      case measure => simp [Go.RowKit.intOf]; omega
     ·have n3 : (xd == 3) = false := by simpa using h3
      have HEX1 := hHd (HE1.out.resolve_right fun h => h3 h.1)
      clear h3
      have hag := again_any (u := u1) (gm := gm) (cm := 1) M6.out D6.out OF3.out RC1.out CM1.out (by have := HKL.out; omega) x HOK.out (TB.out.kp K6.out (fun e => by have := tbl_low TB.out; omega)) (tbl_low TB.out) GX.out [⟨a, c', g4, ⟨R.pg, bnone⟩⟩] (by simp) (fun W hk i q hq => by
       match i, hq with
       |0, hq =>
        injection hq with hq
        rw [<- hq]
        exact Box.range' (BM6.out.kp hk (fun e => e.elim NM6.out GMX.out))
       |i + 1, hq => simp at hq) (fun W hk i q hq => by
       match i, hq with
       |0, hq =>
        injection hq with hq
        rw [<- hq]
        exact R6.out.kp hk (fun e => e.elim NAW6.out (M6.out.ne R6.out).1) (fun e => e.elim NG6.out (M6.out.ne R6.out).2)
       |i + 1, hq => simp at hq) (fun i q hq => by
       match i, hq with
       |0, hq =>
        injection hq with hq
        rw [<- hq]
        exact ⟨NAW6.out, NG6.out, NP.out.j.rel.len, rfl⟩
       |i + 1, hq => simp at hq) ⟨_, List.mem_singleton.2 rfl, HEX1.out⟩
      have HAG := hHd hag
      clear hag
      go_wp2_with (first | (refine wpList_load_mid rfl 30 (.tmp 8) rfl ga 0 rfl x.cells.toList _ (Box.range' (L := x.cells.toList) A6.out) Tryz.underlying30 rfl (by kernel_rfl) ?_) | fail)
      refine HAG.out.mono ?_
      clear y0
      rintro e w10 ⟨hk10, F10, hsub10, rfl, gs10, gl10, g110, g210, a10, c10, g10, s10, d10, R10, hm10, hs10, hst10, hrl10, hn10⟩
      have NN := hHd (show Np w.heap.size w w10 gx b n (2 + 700 * (k + 1)) F10 gs10 gl10 g110 g210 a10 c10 g10 s10 d10 R10 C1 from ⟨⟨hm10, hs10, hst10.mono (by omega), hrl10, hn10⟩, K6.out.trans (hk10.mono fun q _ e => e.elim (fun e => M6.out.low q e) (fun e => by have := GX.out; omega))⟩)
      clear hk10 hsub10 hm10 hs10 hst10 hrl10 hn10 HAG
      go_wp2_with fail
      go_roundw
      case rel => exact ⟨k + 1, by omega, by go_num, _, _, _, _, _, _, _, _, _, _, _, _, NN.out⟩
      case measure => simp [Go.RowKit.intOf]; omega
    ·skip
     have yb := M3.out.cells.1
     have y0 := A3.out.cell 0
     rw [show x.cells[0]? = some (Value.int .u8 x.d) from rfl, HXD.out] at y0
     go_wp2_with fail
     refine (alive_any D3.out).mono ?_
     rw [OF3.out.power]
     rintro e wz ⟨rfl, rfl⟩
     clear yb
     go_wp2_with (first | (refine wpList_load_mid rfl 39 (.tmp 9) rfl gw 0 rfl (rsV a c' g R) _ (Box.range' BW3.out) Tryz.underlying39 rfl (infoRs _ _ _ _) ?_) | fail)
     refine (rabort_any RW3.out).mono ?_
     rintro e w5 ⟨g4, rfl, hr4, hg4, hk5⟩
     have A5 := hHd (A3.out.kp hk5 (fun e => e))
     have BW5 := hHd (BW3.out.kp hk5 (fun e => e))
     have R5 := hHd hr4
     have HG4 := hHd hg4
     have HK5 := hHd hk5
     clear hr4 hg4 hk5 y0
     unfold rsV
     go_upto_region 19 with fail
     obtain ⟨w6, hw6, bm, k6⟩ : ∃ w6, w6 = w5.alloc (.cells (rsV a c' g4 ⟨R.pg, bnone⟩).toArray 39) /\ Box w6 w5.heap.size 39 (rsV a c' g4 ⟨R.pg, bnone⟩).toArray /\ Kp (fun _ => False) w5 w6 := ⟨_, rfl, Box.new w5 _ _, (Kp.refl _ w5).alloc _⟩
     rw [show w5.alloc (.cells #[.slice (some ⟨a, 0, none⟩) R.pg.length c', .map (some g4)] 39) = w6 from hw6.symm]
     have kk := HK5.out.trans k6
     have M6 := hHd (M3.out.thr kk)
     have D6 := hHd (D3.out.thr kk)
     have hl6 := bm.lt
     have h35 := HK5.out.size
     obtain ⟨gm, hgm⟩ : ∃ gm, w5.heap.size = gm := ⟨_, rfl⟩
     have R6 := hHd (R5.out.still k6)
     have NG6 := hHd (show ¬ Thr F3 w3.heap.size w6.heap.size g4 from Thr.out HG4.out R6.out.lt.2)
     have NM6 := hHd (show ¬ Thr F3 w3.heap.size w6.heap.size gm from Thr.out (by omega) (by omega))
     have A6 := hHd (A5.out.kp k6 (fun e => e))
     have BW6 := hHd (BW5.out.kp k6 (fun e => e))
     have RW6 := hHd (RW3.out.still kk)
     have K6 := hHd (K3.out.trans kk.of_false)
     have GEM := hHd (show w3.heap.size <= gm by omega)
     rw [hgm] at bm
     try rw [hgm]
     have BM6 := hHd bm
     obtain ⟨F6, hF6⟩ : ∃ F6, Thr F3 w3.heap.size w6.heap.size = F6 := ⟨_, rfl⟩
     rw [hF6] at M6 D6 NG6 NM6
     have SUB6 := hHd (show ∀ k, F6 k -> F3 k from fun k e => by rw [<- hF6] at e; exact e.1)
     have LOC6 := hHd (show ∀ k, F6 k -> k < w3.heap.size \/ w6.heap.size <= k from fun k e => by rw [<- hF6] at e; exact e.2)
     have NAW6 := hHd (show ¬ F6 a from fun e => M2.out.fa (SUB3X.out _ (SUB6.out _ e)))
     have NGW6 := hHd (show ¬ F6 g from fun e => M2.out.fg (SUB3X.out _ (SUB6.out _ e)))
     clear hw6 bm k6 kk hl6 h35 hgm hF6
     have GMX := hHd (show gm ≠ gx from BM6.out.type_ne M6.out.x (by decide))
     have y0 := A6.out.cell 0
     rw [show x.cells[0]? = some (Value.int .u8 x.d) from rfl, HXD.out] at y0
     obtain ⟨C1, u1, hrc1, hcm1, hex1⟩ := HC1.out
     have RC1 := hHd hrc1
     have CM1 := hHd hcm1
     have HE1 := hHd hex1
     clear hrc1 hcm1 hex1
     by_cases h3 : xd = 3
     ·subst h3
      go_upto_region 20 with fail
      clear y0
      go_wp2_with (first | (refine wpList_load_mid rfl 39 (.tmp 9) rfl gw 0 rfl (rsV a c' g R) _ (Box.range' BW6.out) Tryz.underlying39 rfl (infoRs _ _ _ _) ?_) | fail)
      refine (rcommit_any RW6.out).mono ?_
      rintro e w7 ⟨a5, c5, g5, rfl, hr7, ha7, hg7, hk7⟩
      have R7 := hHd hr7
      have HA7 := hHd ha7
      have HG7 := hHd hg7
      have HK7 := hHd hk7
      have BM7 := hHd (BM6.out.kp hk7 (fun e => e))
      clear hr7 ha7 hg7 hk7
      unfold rsV
      obtain ⟨iS, s1, s2, s3, s4⟩ := storeInf
      have OWN7 := hHd (show w7.ownsRow w3.heap.size 39 2 (.slice (some ⟨gm, 0, none⟩) 1 1) 1 (rsV a c' g4 ⟨R.pg, bnone⟩) from ⟨rfl, .inr ⟨gm, 1, _, rfl, GEM.out, BM7.out, Nat.le_refl _, by decide, rfl, rfl⟩⟩)
      go_upto_region 21 with (first | (at_builtin; refine wpList_append_own _ rfl (.tmp 88) (.tmp 91) 62 rfl w3.heap.size 39 iS _ 2 32 Tryz.underlying62 s1 s2 s3 s4 rfl (by decide) (.slice (some ⟨gm, 0, none⟩) 1 1) 1 (rsV a c' g4 ⟨R.pg, bnone⟩) rfl (OWN7.out.alloc _) ⟨w7.heap.size, 0, none⟩ 1 1 (rsV a5 c5 g5 R.comR) rfl rfl (World.news_of_block (heap_alloc_new w7 _)) (rsV_one _ _ _ _) (by unfold maxLen; omega) (by omega) (by have := HK7.out.size; have := BM6.out.lt; have := GEM.out; rw [World.size_alloc]; omega) ?_; intro v8 w8 hown8 hg8 hnn8; have HO8 := hHd hown8; have K8 := hHd (((Kp.refl (fun q => q = gm) w7).alloc (.cells #[.slice (some ⟨a5, 0, none⟩) R.comR.pg.length c5, .map (some g5)] 39)).grown hg8 (fun q e => .inr (by simpa [Value.ownBlock] using e.symm))); clear hown8 hg8 hnn8) | fail)
      obtain ⟨gn, cn, rfl, hgn1, hgn2⟩ := HO8.out.form (by decide)
      have kk8 : Kp (fun q => q = gm) w6 w8 := HK7.out.of_false.trans K8.out
      have A8 := hHd ((A6.out.kp HK7.out (fun e => e)).kp K8.out (fun e => (A6.out.kp HK7.out (fun e => e)).off_box BM7.out e))
      have M8 := hHd (M6.out.thrX BM6.out kk8)
      have D8 := hHd (D6.out.thrX NM6.out kk8)
      have K8X := hHd (K6.out.trans (kk8.mono fun q _ e => by have := GEM.out; have := K3.out.size; omega))
      have R6X := hHd (R6.out.offX BM6.out kk8)
      have R7X := hHd (R7.out.offX BM7.out K8.out)
      have GNX := hHd (show gn ≠ gx from by obtain ⟨cur, hc⟩ := own_block HO8.out rfl; exact Box.type_ne (t := 39) hc M8.out.x (by decide))
      have NN8 := hHd (show ¬ Thr F6 w6.heap.size w8.heap.size gn from fun e => by have := LOC6.out gn e.1; have := e.2; omega)
      have NA58 := hHd (show ¬ Thr F6 w6.heap.size w8.heap.size a5 from Thr.out HA7.out R7X.out.lt.1)
      have NG58 := hHd (show ¬ Thr F6 w6.heap.size w8.heap.size g5 from Thr.out HG7.out R7X.out.lt.2)
      have NG48 := hHd (show ¬ Thr F6 w6.heap.size w8.heap.size g4 from fun e => NG6.out e.1)
      have NA8 := hHd (show ¬ Thr F6 w6.heap.size w8.heap.size a from fun e => NAW6.out e.1)
      have LEN5 := hHd (show R.comR.pg.length = 128 from (comR_length R).trans NP.out.j.rel.len)
      obtain ⟨F8, hF8⟩ : ∃ F8, Thr F6 w6.heap.size w8.heap.size = F8 := ⟨_, rfl⟩
      rw [hF8] at M8 D8 NN8 NA58 NG58 NG48 NA8
      clear kk8 hgn1 hgn2 hF8 OWN7 BM7 HK7 HA7 HG7 R7 K8 s1 s2 s3 s4
      have y0 := A8.out.cell 0
      have hag := again_any (u := u1) (gm := gn) (cm := cn) M8.out D8.out OF3.out RC1.out CM1.out (by have := HKL.out; omega) x HOK.out (TB.out.kp K8X.out (fun e => by have := tbl_low TB.out; omega)) (tbl_low TB.out) GX.out [⟨a, c', g4, ⟨R.pg, bnone⟩⟩, ⟨a5, c5, g5, R.comR⟩] (by simp) (fun W hk i q hq => by
       have ho := down_kp HO8.out hk (fun q e1 e2 => by
        simp only [Value.ownBlock, Option.some.injEq] at e1
        subst e1
        exact e2.elim NN8.out GNX.out)
       match i, hq with
       |0, hq =>
        injection hq with hq
        rw [<- hq]
        exact own_range ho (0 * 2) (fun j v hj => by
         match j, hj with
         |0, hj => exact hj
         |1, hj => exact hj
         |j + 2, hj => simp [rsV] at hj)
       |1, hq =>
        injection hq with hq
        rw [<- hq]
        exact own_range ho (1 * 2) (fun j v hj => by
         match j, hj with
         |0, hj => exact hj
         |1, hj => exact hj
         |j + 2, hj => simp [rsV] at hj)
       |i + 2, hq => simp at hq) (fun W hk i q hq => by
       match i, hq with
       |0, hq =>
        injection hq with hq
        rw [<- hq]
        exact R6X.out.kp hk (fun e => e.elim NA8.out (M8.out.ne R6X.out).1) (fun e => e.elim NG48.out (M8.out.ne R6X.out).2)
       |1, hq =>
        injection hq with hq
        rw [<- hq]
        exact R7X.out.kp hk (fun e => e.elim NA58.out (M8.out.ne R7X.out).1) (fun e => e.elim NG58.out (M8.out.ne R7X.out).2)
       |i + 2, hq => simp at hq) (fun i q hq => by
       match i, hq with
       |0, hq =>
        injection hq with hq
        rw [<- hq]
        exact ⟨NA8.out, NG48.out, NP.out.j.rel.len, rfl⟩
       |1, hq =>
        injection hq with hq
        rw [<- hq]
        exact ⟨NA58.out, NG58.out, LEN5.out, rfl⟩
       |i + 2, hq => simp at hq) (HE1.out.elim (fun h => ⟨_, List.mem_cons_self, h⟩) (fun h => ⟨_, List.mem_cons_of_mem _ (List.mem_singleton.2 rfl), h.2⟩))
      have HAG := hHd hag
      clear hag
      go_wp2_with (first | (refine wpList_load_mid rfl 30 (.tmp 8) rfl ga 0 rfl x.cells.toList _ (Box.range' (L := x.cells.toList) A8.out) Tryz.underlying30 rfl (by kernel_rfl) ?_) | fail)
      refine HAG.out.mono ?_
      clear y0
      rintro e w10 ⟨hk10, F10, hsub10, rfl, gs10, gl10, g110, g210, a10, c10, g10, s10, d10, R10, hm10, hs10, hst10, hrl10, hn10⟩
      have NN := hHd (show Np w.heap.size w w10 gx b n (2 + 700 * (k + 1)) F10 gs10 gl10 g110 g210 a10 c10 g10 s10 d10 R10 C1 from ⟨⟨hm10, hs10, hst10.mono (by omega), hrl10, hn10⟩, K8X.out.trans (hk10.mono fun q _ e => e.elim (fun e => M8.out.low q e) (fun e => by have := GX.out; omega))⟩)
      clear hk10 hsub10 hm10 hs10 hst10 hrl10 hn10 HAG
      go_wp2_with fail
      go_roundw
      case rel => exact ⟨k + 1, by omega, by go_num, _, _, _, _, _, _, _, _, _, _, _, _, NN.out⟩
      case measure => simp [Go.RowKit.intOf]; omega
     ·have n3 : (xd == 3) = false := by simpa using h3
      have HEX1 := hHd (HE1.out.resolve_right fun h => h3 h.1)
      clear h3
      have hag := again_any (u := u1) (gm := gm) (cm := 1) M6.out D6.out OF3.out RC1.out CM1.out (by have := HKL.out; omega) x HOK.out (TB.out.kp K6.out (fun e => by have := tbl_low TB.out; omega)) (tbl_low TB.out) GX.out [⟨a, c', g4, ⟨R.pg, bnone⟩⟩] (by simp) (fun W hk i q hq => by
       match i, hq with
       |0, hq =>
        injection hq with hq
        rw [<- hq]
        exact Box.range' (BM6.out.kp hk (fun e => e.elim NM6.out GMX.out))
       |i + 1, hq => simp at hq) (fun W hk i q hq => by
       match i, hq with
       |0, hq =>
        injection hq with hq
        rw [<- hq]
        exact R6.out.kp hk (fun e => e.elim NAW6.out (M6.out.ne R6.out).1) (fun e => e.elim NG6.out (M6.out.ne R6.out).2)
       |i + 1, hq => simp at hq) (fun i q hq => by
       match i, hq with
       |0, hq =>
        injection hq with hq
        rw [<- hq]
        exact ⟨NAW6.out, NG6.out, NP.out.j.rel.len, rfl⟩
       |i + 1, hq => simp at hq) ⟨_, List.mem_singleton.2 rfl, HEX1.out⟩
      have HAG := hHd hag
      clear hag
      go_wp2_with (first | (refine wpList_load_mid rfl 30 (.tmp 8) rfl ga 0 rfl x.cells.toList _ (Box.range' (L := x.cells.toList) A6.out) Tryz.underlying30 rfl (by kernel_rfl) ?_) | fail)
      refine HAG.out.mono ?_
      clear y0
      rintro e w10 ⟨hk10, F10, hsub10, rfl, gs10, gl10, g110, g210, a10, c10, g10, s10, d10, R10, hm10, hs10, hst10, hrl10, hn10⟩
      have NN := hHd (show Np w.heap.size w w10 gx b n (2 + 700 * (k + 1)) F10 gs10 gl10 g110 g210 a10 c10 g10 s10 d10 R10 C1 from ⟨⟨hm10, hs10, hst10.mono (by omega), hrl10, hn10⟩, K6.out.trans (hk10.mono fun q _ e => e.elim (fun e => M6.out.low q e) (fun e => by have := GX.out; omega))⟩)
      clear hk10 hsub10 hm10 hs10 hst10 hrl10 hn10 HAG
      go_wp2_with fail
      go_roundw
      case rel => exact ⟨k + 1, by omega, by go_num, _, _, _, _, _, _, _, _, _, _, _, _, NN.out⟩
      case measure => simp [Go.RowKit.intOf]; omega
  ·go_wp2_with fail
   have T7 := NP.out.tbl TB.out rfl
   have T7b := NP.out.btbl TBB.out rfl
   refine (pwakes_true wr T7 T7b).mono ?_
   rintro e w8 ⟨rfl, hk8⟩
   have K8 := hHd (NP.out.kp.trans hk8.of_false)
   clear T7 T7b hk8
   go_wp2_with fail
   go_ret
   exact ⟨rfl, K8.out⟩
end Go.Proofs.YtepaeliamhjgiaaGreatDoor
namespace Go.Proofs.YtepaeliamhjgiaaGreatDoor
open Go.RowKit Go.Maps
theorem pkeeps_walk (a0 : Int) (h0 : 0 <= a0) (h1 : a0 <= 255) (A : Option Addr) (l : List Aw) (c : Nat) (w : World) (h : Aws w w.heap.size A l) (hc : l.length <= c) (hm : c <= maxLen) (ht : Tbl w) (htb : Bt.Tbl w) :
  Calls Tryz.prog 5 #[.int .u8 a0, .slice A l.length c] w fun e w' => e = .returned (.bool true) /\ Kp (fun k => w.heap.size <= k) w w' := by
 have hgr := greatw_any h c hc hm
 have fin : ∀ {v v' : World}, Kp (fun _ => False) v v' -> Kp (fun k => v.heap.size <= k) v v' := fun hk => hk.of_false
 by_cases hg : greatW l = true
 ·rw [hg] at hgr
  clear h hg hm hc
  go_enter Tryz.func5, Tryz.ntmps5
  go_wp2_with fail
  refine hgr.mono ?_
  rintro e w' ⟨rfl, rfl⟩
  go_wp2_with fail
  refine (pwakes_true _ ht htb).mono ?_
  rintro e w9 ⟨rfl, k9⟩
  have K9 := hHd k9
  clear k9
  go_wp2_with fail
  go_ret
  exact ⟨rfl, fin K9.out⟩
 ·have hg' : greatW l = false := Bool.eq_false_iff.2 hg
  by_cases hn : 96 <= a0 /\ a0 <= 150
  ·obtain ⟨n, rfl⟩ := Int.eq_ofNat_of_zero_le h0
   exact pkeeps_main n (by omega) (by omega) A l c w h hc hm hg' ht htb
  ·rw [hg'] at hgr
   clear h hg hg' hm hc
   by_cases h2 : a0 < 96
   ·clear hn
    go_enter Tryz.func5, Tryz.ntmps5
    go_wp2_with fail
    refine hgr.mono ?_
    rintro e w' ⟨rfl, rfl⟩
    go_wp2_with fail
    refine (pwakes_true _ ht htb).mono ?_
    rintro e w9 ⟨rfl, k9⟩
    have K9 := hHd k9
    clear k9
    go_wp2_with fail
    go_ret
    exact ⟨rfl, fin K9.out⟩
   ·have h3 : 150 < a0 := by omega
    clear hn
    go_enter Tryz.func5, Tryz.ntmps5
    go_wp2_with fail
    refine hgr.mono ?_
    rintro e w' ⟨rfl, rfl⟩
    go_wp2_with fail
    refine (pwakes_true _ ht htb).mono ?_
    rintro e w9 ⟨rfl, k9⟩
    have K9 := hHd k9
    clear k9
    go_wp2_with fail
    go_ret
    exact ⟨rfl, fin K9.out⟩
end Go.Proofs.YtepaeliamhjgiaaGreatDoor
namespace Go.Proofs.YtepaeliamhjgiaaGreatDoor.pagesKeep
open Go.ChangeShapes Go.WideShapes Go.ChangeAt Go.RowKit
theorem laidOut : laidOutB Tryz.prog = true := by kernel_rfl
theorem lifted (os : Os) (started : os.Started) (H : Type) (enc : TypeId × Value -> H) :
  ReturnsInHanded {} Tryz.checked os 5 .any (fun w args => (Rows.pagesKeepSpec.pre enc Tryz.prog Tryz.f5 [] false w args /\ laidMetH Tryz.prog pages.laidL w) /\ sizedMet enc Tryz.prog Tryz.f5 (OpenSpec.ofChange Rows.pagesKeepSpec) false w args)
   (Rows.pagesKeepSpec.post enc Tryz.prog Tryz.f5 false true false false) := by
 refine returnsInHanded_of_change_and (C := Tryz.checked) (X := fun w _ => laidMetH Tryz.prog pages.laidL w) (fun _ _ _ hh h => h.of_heap hh) own started (by kernel_rfl) Tryz.func5
  (ChangeSpec.witness_shaped (enc := enc) (C := Tryz.checked) (os := os) (X := fun w _ => laidMetH Tryz.prog pages.laidL w) false (World.doorLaid Tryz.prog 400 os) #[.int .u8 0, .slice none 0 0] 8 rfl (World.shaped_of_RefB (by kernel_rfl) (by kernel_rfl)) (by kernel_rfl) (by kernel_rfl) (by kernel_rfl) (pages.door_met os _)) ?_
 intro W base args ds gs before hval0 hW _ _ hL _
 have hval : ∀ (j : Nat) t v, Tryz.f5.params[j]? = some t -> args[j]? = some v -> Value.okWide Tryz.prog W .any base t v := hval0
 have hW' := hW
 obtain ⟨p, q, hA0, hV, rfl, hfz, hnd⟩ := hW
 have hA : DataW.TrodAll enc Tryz.prog W 0 (fun _ => true) true Tryz.f5.params.toList args.toList ds p := hA0
 rw [Tryz.params5] at hA hval
 obtain ⟨v0, vs0, d0, ds0, p0, q0, hargs, rfl, rfl, h0, r0⟩ := trodAll_cons hA
 obtain ⟨v1, vs1, d1, ds1, p1, q1, rfl, rfl, rfl, h1, r1⟩ := trodAll_cons r0
 obtain ⟨rfl, rfl, rfl⟩ := trodAll_nil r1
 obtain rfl : args = #[v0, v1] := by cases args; simp_all
 obtain ⟨rfl, rfl⟩ := trodVars_none hV
 obtain ⟨a0, rfl, rfl, rfl, w0⟩ := open_int Tryz.underlying5 (hval 0 5 v0 rfl rfl) h0
 obtain ⟨a1, len1, cap1, rfl⟩ := okWide_slice Tryz.underlying22 (hval 1 22 v1 rfl rfl)
 have k1 := h1
 have lt1 : ∀ x ∈ p1, x.block < W.heap.size := by obtain ⟨m, hm⟩ := k1; exact DataW.trod_lt m _ _ _ hm
 obtain ⟨l, rfl, hl1, hm1, hi1⟩ := wopen_items h1
 clear hA0 hval0
 simp only [Lit.wf, Bool.and_eq_true, decide_eq_true_eq, u8_lo, u8_hi] at w0
 simp only [List.nil_append, List.append_nil] at hW'
 refine (pkeeps_walk a0 w0.1 w0.2 a1 l cap1 W hi1 hl1 hm1 (pages.tbl_of_laid hL).1 (pages.tbl_of_laid hL).2).mono fun e W' ⟨he, kp⟩ => ?_
 subst he
 have bel : Below W.heap.size W W' := kp.below (Nat.le_refl _) fun _ h => h
 exact ⟨_, rfl, _, _, _, [], _, [], hW', trodAll_mk1 (shut_bool Tryz.underlying4 _), trodAll_cons_mk (shut_int Tryz.underlying5 (by simp only [Lit.wf, Bool.and_eq_true, decide_eq_true_eq, u8_lo, u8_hi]; exact w0)) (trodAll_cons_mk (Below.trod laidOut (by kernel_rfl) (of_decide_eq_true (by kernel_rfl)) k1 bel lt1) trodAll_mk0), rfl, bel.frame _, fun h => by cases h⟩
theorem said : Rows.PagesKeepSaid :=
 OpenClaim.holds_of_wide 5 Tryz.f5 rfl rfl rfl rfl rfl rfl rfl ⟨rfl, rfl, rfl, rfl, rfl⟩ rfl rfl rfl rfl rfl (by kernel_rfl) Tryz.func5 (by kernel_rfl)
  (of_decide_eq_true (by kernel_rfl)) (by unfold Func.isWrapper; first | (rw [if_pos (by decide +kernel)]; kernel_rfl) | (rw [if_neg (by decide +kernel)]; exact ⟨rfl, rfl⟩))
  (fun os started H enc _ => lifted os started H enc)
theorem proved : Rows.PagesKeepCardSaid :=
 Claim7.holds_tied_plain_at .later [] [.data, .data] true (true, "1a785f4fd72d86b8b8165a7c9f660bd4dd7b48901f20bc532c6e22669a6e39a5") false
  said (fun _ h => by cases h) (by kernel_rfl) (fun _ h => by cases h) pagesKeep_row_tie rfl ⟨rfl, rfl⟩ (by kernel_rfl) rfl
  (fun f fn hf hfn => by
   obtain rfl : f = 5 := Option.some.inj ((show Tryz.prog.funcNamed "armarium/armariumlaw08.PagesKeep" = some 5 by kernel_rfl).symm.trans hf) |>.symm
   obtain rfl : fn = Tryz.f5 := (Option.some.inj (Tryz.func5.symm.trans hfn)).symm
   exact ⟨by kernel_rfl, fun j t ht => by
    rw [Tryz.params5] at ht
    have hm : t ∈ [5, 22] := by simpa using Array.mem_of_getElem? ht
    have hall : ([5, 22].all fun u => !Tryz.prog.wantsStandIn u) = true := by kernel_rfl
    exact (show Tryz.prog.wantsStandIn t = false by simpa using List.all_eq_true.1 hall t hm)⟩)
  (by kernel_rfl)
end Go.Proofs.YtepaeliamhjgiaaGreatDoor.pagesKeep
