/- The law of pages, part 51 of 55: PgPlay PgLaid. -/
import Derived.Test.YtepaeliamhjgiaaGreatDoorMu1
import Derived.Test.YtepaeliamhjgiaaGreatDoorMu49
import Derived.Test.YtepaeliamhjgiaaGreatDoorMu23
import Derived.Test.YtepaeliamhjgiaaGreatDoorMu27
set_option maxHeartbeats 16000000
set_option maxRecDepth 100000
namespace Go.Proofs.YtepaeliamhjgiaaGreatDoor
open Go.RowKit Go.Maps Go.Shelf
structure Np (B : Nat) (w wr : World) (gx b L N : Nat) (F : Nat -> Prop) (gs gl g1 g2 a c g : Nat) (s : Sm) (d : Dm) (R : Rs) (C : Nat -> List UInt8) : Prop where
 j : Jx B F wr gx gs gl b g1 g2 a c g L N s d R C
 kp : Kp (fun q => B <= q) w wr
theorem Np.tbl {B : Nat} {w wr : World} {gx b L N : Nat} {F : Nat -> Prop} {gs gl g1 g2 a c g : Nat} {s : Sm} {d : Dm} {R : Rs} {C : Nat -> List UInt8} (h : Np B w wr gx b L N F gs gl g1 g2 a c g s d R C) (ht : Tbl w) (hB : B = w.heap.size) : Tbl wr := ht.kp h.kp (fun e => by have := tbl_low ht; omega)
theorem Np.btbl {B : Nat} {w wr : World} {gx b L N : Nat} {F : Nat -> Prop} {gs gl g1 g2 a c g : Nat} {s : Sm} {d : Dm} {R : Rs} {C : Nat -> List UInt8} (h : Np B w wr gx b L N F gs gl g1 g2 a c g s d R C) (ht : Bt.Tbl w) (hB : B = w.heap.size) : Bt.Tbl wr := ht.kp h.kp (fun e => by have := btbl_low ht; omega)
theorem pplays_main (n : Nat) (l1 : 96 <= n) (l2 : n <= 150) (A : Option Addr) (acts : List Aw) (c : Nat) (w : World) (h : Aws w w.heap.size A acts) (hc : acts.length <= c) (hm : c <= maxLen) (hg : greatW acts = false) (tb : Tbl w) (tbb : Bt.Tbl w) :
  Calls Tryz.prog 3 #[.int .u8 n, .slice A acts.length c] w fun e w' => e = .returned (.bool true) /\ Kp (fun k => w.heap.size <= k) w w' := by
 have TB := hHd tb
 have TBB := hHd tbb
 have HC := hHd h
 have L1 := hHd l1
 have L2 := hHd l2
 have hgr := greatw_any h c hc hm
 rw [hg] at hgr
 have hl60 : acts.length <= 60 := (not_greatW hg).1
 unfold maxLen at hm
 clear tb tbb h hg
 have hd1 : ¬ ((n : Int) < 96) := by omega
 have hd2 : ¬ (150 < (n : Int)) := by omega
 clear l1 l2
 go_enter Tryz.func3, Tryz.ntmps3
 go_wp2_with fail
 refine hgr.mono ?_
 clear hgr
 rintro e w0 ⟨rfl, rfl⟩
 go_wp2_with fail
 refine (begins_any n L1.out L2.out w TB.out).mono ?_
 rintro e w1 ⟨gx, F, gs, gl, b, g1, g2, a, c', g, s, d, rfl, J, hu1, hu2, hlit, hgx, hgx2, hk1⟩
 have N1 := hHd (show Np w.heap.size w w1 gx b n 2 F gs gl g1 g2 a c' g s d (newR 128) blankC from ⟨J, hk1.of_false⟩)
 have LIT := hHd hlit
 have GX := hHd hgx
 clear J hu1 hu2 hlit hgx hgx2 hk1 hd1 hd2
 go_wp2_with fail
 go_loopw [7] (fun s7 wr => ∃ k : Nat, k <= acts.length /\ s7 = .int .i64 k /\ ∃ (F : Nat -> Prop) (gs gl g1 g2 a c g : Nat) (s : Sm) (d : Dm) (R : Rs) (C : Nat -> List UInt8), Np w.heap.size w wr gx b n (2 + 600 * k) F gs gl g1 g2 a c g s d R C /\ d.lit = false) (fun s7 _ => acts.length - (Go.RowKit.intOf s7).toNat)
 case atStart => exact ⟨0, Nat.zero_le _, rfl, _, _, _, _, _, _, _, _, _, _, _, _, N1.out, LIT.out⟩
 case round =>
  clear N1 LIT
  obtain ⟨k, hkl, rfl, F, gs, gl, g1, g2, a, c', g, s, d, R, C, hnp, hlit⟩ := hrel
  have NP := hHd hnp
  have LIT := hHd hlit
  clear hnp hlit
  by_cases hlt : k < acts.length
  ·obtain ⟨bA, oA, hA, _, hcell⟩ : ∃ b o, A = some ⟨b, o, none⟩ /\ b < w.heap.size /\ ∀ i x, acts[i]? = some x -> ∀ j v, x.cells[j]? = some v -> wr.cell? ⟨b, o + i * 4 + j, none⟩ = some v := by
    rcases (HC.out.keep (fun q hq => NP.out.kp.block q hq (by omega))).2 with h0 | h0
    ·subst h0; simp at hlt
    ·exact h0
   subst hA
   obtain ⟨x, hx⟩ : ∃ x, acts[k]? = some x := ⟨_, List.getElem?_eq_getElem hlt⟩
   have e0 : wr.cell? ⟨bA, oA + k * 4, none⟩ = some (.int .u8 x.d) := hcell k x hx 0 _ rfl
   have e1 : wr.cell? ⟨bA, oA + k * 4 + 1, none⟩ = some (.int .i64 x.n) := hcell k x hx 1 _ rfl
   have e2 : wr.cell? ⟨bA, oA + k * 4 + 2, none⟩ = some (.int .u8 x.c.toNat) := hcell k x hx 2 _ rfl
   have e3 : wr.cell? ⟨bA, oA + k * 4 + 3, none⟩ = some (.string ⟨x.keep.toArray⟩) := hcell k x hx 3 _ rfl
   have hdo := does_any NP.out.j (by omega) x (HC.out.1 x (List.mem_of_getElem? hx)) (NP.out.tbl TB.out rfl) (NP.out.btbl TBB.out rfl) (tbl_low TB.out) (btbl_low TBB.out) GX.out
   simp only [Aw.cells] at hdo
   have HDO := hHd hdo
   obtain ⟨pA, hpA⟩ : ∃ p, oA + k * 4 = p := ⟨_, rfl⟩
   rw [hpA] at e0 e1 e2 e3
   clear hcell hx hdo
   go_wp2_with fail
   refine HDO.out.mono ?_
   rintro e w2 ⟨hk2, F2, hsub, ⟨rfl, gs2, gl2, q1, q2, a2, c2, g2', s2, d2, R2, C2, hj, hcc, hlit⟩ | ⟨_, hl, _⟩⟩
   ·have NN := hHd (show Np w.heap.size w w2 gx b n (2 + 600 * (k + 1)) F2 gs2 gl2 q1 q2 a2 c2 g2' s2 d2 R2 C2 from ⟨⟨hj.m, hj.sto, hj.st.mono (by omega), hj.rel, hj.note⟩, NP.out.kp.trans (hk2.mono fun q _ e => e.elim (fun e => NP.out.j.m.low q e) (fun e => by have := GX.out; omega))⟩)
    have LIT2 := hHd (hlit LIT.out)
    clear hk2 hsub hj hcc hlit HDO e0 e1 e2 e3 hpA
    go_wp2_with fail
    go_roundw
    case rel => exact ⟨k + 1, by omega, by go_num, _, _, _, _, _, _, _, _, _, _, _, _, NN.out, LIT2.out⟩
    case measure => simp [Go.RowKit.intOf]; omega
   ·exact absurd (hl.symm.trans LIT.out) (by decide)
  ·have HK := hHd hl60
   have HKL := hHd hkl
   go_wp2_with fail
   have HB : Hid (2 + 600 * k + 3000 < 18446744073709551616) := hHd (by have := HK.out; have := HKL.out; omega)
   have hsame := same_any NP.out.j.m NP.out.j.sto NP.out.j.st NP.out.j.rel.len (by rw [NP.out.j.rel.chg]) (NP.out.j.rel.cmNow (by decide)).p0 NP.out.j.rel.cwf (by have := HB.out; omega)
   refine hsame.mono ?_
   clear hsame
   rintro e w2 ⟨r, rfl, hr, hk2, hs2⟩
   obtain rfl : r = true := hr.2 fun i hi => NP.out.j.rel.at hi
   have M2 := hHd (NP.out.j.m.kp hk2)
   have S2 := hHd hs2
   have K2 := hHd (NP.out.kp.trans (hk2.mono fun q _ e => NP.out.j.m.low q e))
   have y := M2.out.cells.1
   clear hr hk2 hs2
   go_wp2_with fail
   have T2 := TB.out.kp K2.out (fun e => by have := tbl_low TB.out; omega)
   have hop := open_law (F := F) M2.out.new (fun e => by have := M2.out.low _ e; have := tbl_low TB.out; omega) (S2.out.dk.mono fun k e => e.1) T2 NP.out.j.st.up NP.out.j.st.rc NP.out.j.rel.cm (by have := HB.out; omega) (by decide) (by decide)
   refine hop.mono ?_
   clear hop T2 y
   rintro e w3 ⟨hk3, ⟨gs3, gl3, g13, g23, s3, d3, rfl, hsto, hst, n1, n2, n3, n4, hlit⟩ | ⟨d3, _, hl, _⟩⟩
   ·have S3 := hHd hsto
    have ST3 := hHd hst
    have N3 := hHd n3
    have N4 := hHd n4
    have M3 := hHd (M2.out.kp hk3)
    have K3 := hHd (K2.out.trans (hk3.mono fun q _ e => M2.out.low q e))
    have y1 := M3.out.cells.2.1
    have yf1 := M3.out.x.free 1
    clear hsto hst n1 n2 n3 n4 hlit hk3
    go_upto_region 15 with fail
    have hb4 := M3.out.x.put 1 (.pointer (some ⟨gs3, 0, none⟩))
    have hk4 := Kp.one w3 gx 1 (.pointer (some ⟨gs3, 0, none⟩))
    have M4 := hHd (M3.out.told (gs' := gs3) M3.out.rv M3.out.fa M3.out.fg hb4 hk4)
    have S4 := hHd (S3.out.off M3.out.fx hk4)
    have K4 := hHd (K3.out.trans (hk4.mono fun k _ e => by have := GX.out; have e : k = gx := e; omega))
    obtain ⟨w4, hw4⟩ : ∃ w4, w3.setCell ⟨gx, 1, none⟩ (.pointer (some ⟨gs3, 0, none⟩)) = w4 := ⟨_, rfl⟩
    rw [hw4] at M4 S4 K4
    try rw [hw4]
    clear hb4 hk4 hw4 y1 yf1
    go_wp2_with (first | (refine wpList_load_mid rfl 39 (.tmp 60) rfl gx 2 rfl (rsV a c' g R) _ M4.out.rs Tryz.underlying39 rfl (infoRs _ _ _ _) ?_) | fail)
    refine (rabort_any M4.out.rv).mono ?_
    rintro e w5 ⟨g', rfl, hr, hg', hk5⟩
    have M5 := hHd (M4.out.thr hk5)
    have S5 := hHd (S4.out.thr hk5)
    have R5 := hHd hr
    have NG := hHd (Thr.out (F := F) hg' hr.lt.2)
    have K5 := hHd (K4.out.trans hk5.of_false)
    obtain ⟨F5, hF5⟩ : ∃ F5, Thr F w4.heap.size w5.heap.size = F5 := ⟨_, rfl⟩
    rw [hF5] at M5 S5 NG
    clear hr hg' hk5 hF5
    go_upto_region 16 with (first | (refine wpList_store_part rfl 39 (.tmp 64) (.tmp 62) rfl gx [.pointer (some ⟨b, 0, none⟩), .pointer (some ⟨gs3, 0, none⟩)] (rsV a c' g R) (rsV a c' g' ⟨R.pg, bnone⟩) [.int .i64 (n : Int)] rfl rfl M5.out.x rfl (infoRs _ _ _ _) (rsV_one _ _ _ _) ?_; intro w6 hb6 hk6) | fail)
    have M6 := hHd (M5.out.told R5.out M5.out.fa NG.out hb6 hk6)
    have S6 := hHd (S5.out.off M5.out.fx hk6)
    have K6 := hHd (K5.out.trans (hk6.mono fun k _ e => by have := GX.out; have e : k = gx := e; omega))
    clear hb6 hk6
    try simp only [Act.put]
    go_wp2_with fail
    have hsame := same_any M6.out S6.out ST3.out NP.out.j.rel.len (by rw [N4.out]) (by rw [N4.out, N3.out]; exact NP.out.j.rel.cm.p0) (by rw [N3.out]; exact NP.out.j.rel.cm.wf) (by have := HB.out; omega)
    refine hsame.mono ?_
    clear hsame
    rintro e w7 ⟨r, rfl, hr, hk7, hs7⟩
    obtain rfl : r = true := hr.2 fun i hi => by
     rw [N4.out]
     exact NP.out.j.rel.pg i hi
    have K7 := hHd (K6.out.trans (hk7.mono fun q _ e => M6.out.low q e))
    clear hr hk7 hs7
    go_wp2_with fail
    have T7 := TB.out.kp K7.out (fun e => by have := tbl_low TB.out; omega)
    have T7b := TBB.out.kp K7.out (fun e => by have := btbl_low TBB.out; omega)
    refine (pwakes_true w7 T7 T7b).mono ?_
    rintro e w8 ⟨rfl, hk8⟩
    have K8 := hHd (K7.out.trans hk8.of_false)
    clear T7 T7b hk8
    go_wp2_with fail
    go_ret
    exact ⟨rfl, K8.out⟩
   ·exact absurd (hl.symm.trans LIT.out) (by decide)
end Go.Proofs.YtepaeliamhjgiaaGreatDoor
namespace Go.Proofs.YtepaeliamhjgiaaGreatDoor.pages
open Go.ChangeShapes Go.WideShapes Go.ChangeAt Go.RowKit
def laidL : List (String × DataW Unit) := [("armarium/crc.halves", Rows.laid_armarium_crc_halves), ("math/bits.deBruijn64tab", Rows.laid_math_bits_deBruijn64tab)]
theorem door_met (os : Os) (args : Array Value) : laidMetH Tryz.prog laidL ((World.doorLaid Tryz.prog 400 os).forCall (fun _ _ => 0) ⟨#[], args, []⟩).memory :=
 laidMetH_of_parts3 (fuel := 8) (laidMet_of_run' 8 (by kernel_rfl) (by kernel_rfl)) (by kernel_rfl) (by kernel_rfl)
theorem tbl_of_laid {W : World} (h : laidMetH Tryz.prog laidL W) : Tbl W /\ Bt.Tbl W := by
 rw [MakeChecks.laidMetH_plain _ _ _ (by kernel_rfl)] at h
 obtain ⟨ps, ⟨g0, t0, cs0, f0, p0, q0, hg0, ht0, hv0, hd0, ⟨g1, t1, cs1, f1, p1, q1, hg1, ht1, hv1, hd1, _, _⟩, _⟩, _, _⟩ := h
 obtain rfl := Option.some.inj (gHalves.symm.trans hg0)
 obtain rfl := Option.some.inj (tHalves.symm.trans ht0)
 obtain rfl := Option.some.inj (Bt.gTab.symm.trans hg1)
 obtain rfl := Option.some.inj (Bt.tTab.symm.trans ht1)
 constructor
 ·intro i hi
  have hc := laid_array (zs := tabZ) Tryz.underlying241 Tryz.underlying217 cU32 hd0 i ((tab i : Nat) : Int) hi (tabZ_get i hi)
  rw [World.var?_cell hg0 hv0 i, <- hc, Array.getElem?_toList]
 ·intro i hi
  have hc := laid_array (zs := Bt.tabZ) Tryz.underlying205 Tryz.underlying5 Bt.cU8 hd1 i ((Bt.bruijn.getD i 0 : Nat) : Int) hi (Bt.tabZ_get i hi)
  rw [World.var?_cell hg1 hv1 i, <- hc, Array.getElem?_toList]
end Go.Proofs.YtepaeliamhjgiaaGreatDoor.pages
