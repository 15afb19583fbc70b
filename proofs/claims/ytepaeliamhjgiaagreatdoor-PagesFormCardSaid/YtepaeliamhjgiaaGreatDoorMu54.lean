/- The law of pages, part 54 of 55: PgNil PgForms. -/
import Derived.Test.YtepaeliamhjgiaaGreatDoorMu1
import Derived.Test.YtepaeliamhjgiaaGreatDoorMu42
import Derived.Test.YtepaeliamhjgiaaGreatDoorMu49
set_option maxHeartbeats 16000000
set_option maxRecDepth 100000
namespace Go.Proofs.YtepaeliamhjgiaaGreatDoor
open Go.RowKit Go.Maps Go.Shelf
theorem order_nil (l : List Stp) (g cp : Nat) (w : World) (hr : Box w g 104 ((((Stp.mk 63 #[.pointer none] #[]) :: l).map Stp.v).toArray)) (he : ∀ s ∈ (Stp.mk 63 #[.pointer none] #[]) :: l, Enters Tryz.prog s.f) (hl : l.length <= 90) (m : Nat) (hm : l.length + 1 = m) :
  Calls Tryz.prog 42 #[.slice (some ⟨g, 0, none⟩) m cp] w fun e V => e = .returned (.int .i64 1) /\ Kp (fun _ => False) w V := by
 subst hm
 have hord := order_any ((Stp.mk 63 #[.pointer none] #[]) :: l) g cp w (fun i V => i = 0 /\ Kp (fun _ => False) w V) (fun q V => q = 1 /\ Kp (fun _ => False) w V)
  (fun i V hi j st hj => by
   have hb := hr.kp hi.2 (fun e => e)
   rw [hb.cell, List.getElem?_toArray, List.getElem?_map, hj]
   rfl)
  ⟨rfl, Kp.refl _ w⟩ he (by rw [List.length_cons]; omega)
  (fun i st V hi hI => by
   obtain ⟨rfl, hk⟩ := hI
   have hi : some (Stp.mk 63 #[.pointer none] #[]) = some st := hi
   injection hi with hi
   subst hi
   refine (pis_nil V).mono ?_
   rintro e V' ⟨rfl, rfl⟩
   exact ⟨1, rfl, .inr ⟨by decide, rfl, hk⟩⟩)
 refine hord.mono ?_
 rintro e V (⟨_, h0, _⟩ | ⟨q, _, rfl, rfl, hk⟩)
 ·simp at h0
 ·exact ⟨rfl, hk⟩
theorem phasv_nil (i : Int) (w : World) :
  Calls Tryz.prog 64 #[.pointer none, .int .i64 i] w fun e w' => ∃ ga gb, e = .returned (.func (.func 117) #[] #[.pointer (some ⟨gb, 0, none⟩), .pointer (some ⟨ga, 0, none⟩)]) /\ Kp (fun _ => False) w w' := by
 go_enter Tryz.func64, Tryz.ntmps64
 go_wp2_with fail
 go_ret
 exact ⟨_, _, rfl, ((Kp.refl _ w).alloc _).alloc _⟩
theorem pfreev_nil (i : Int) (w : World) :
  Calls Tryz.prog 71 #[.pointer none, .int .i64 i] w fun e w' => ∃ ga gb, e = .returned (.func (.func 124) #[] #[.pointer (some ⟨gb, 0, none⟩), .pointer (some ⟨ga, 0, none⟩)]) /\ Kp (fun _ => False) w w' := by
 go_enter Tryz.func71, Tryz.ntmps71
 go_wp2_with fail
 go_ret
 exact ⟨_, _, rfl, ((Kp.refl _ w).alloc _).alloc _⟩
theorem palloc_nil (w : World) :
  Calls Tryz.prog 20 #[.pointer none] w fun e w' => e = .returned (.tuple #[.int .i64 0, .int .i64 1]) /\ Kp (fun _ => False) w w' := by
 go_enter Tryz.func20, Tryz.ntmps20
 go_wp2_with fail
 obtain ⟨W3, hW3, b3, k3⟩ : ∃ W3, W3 = w.alloc (.cells ([(Stp.mk 63 #[.pointer none] #[]), (Stp.mk 65 #[.pointer none] #[])].map Stp.v).toArray 104) /\ Box W3 w.heap.size 104 ([(Stp.mk 63 #[.pointer none] #[]), (Stp.mk 65 #[.pointer none] #[])].map Stp.v).toArray /\ Kp (fun _ => False) w W3 := ⟨_, rfl, Box.new w _ _, (Kp.refl _ w).alloc _⟩
 have K3 := hHd (k3)
 have hcall : ∀ W, W = W3 -> Calls Tryz.prog 42 #[.slice (some ⟨w.heap.size, 0, none⟩) 2 2] W _ := fun W e => by
  rw [e]
  exact order_nil [(Stp.mk 65 #[.pointer none] #[])] w.heap.size 2 W3 b3 (fun st hst => by
   simp only [List.mem_cons, List.not_mem_nil, or_false] at hst
   rcases hst with rfl | rfl
   ·exact enters_of Tryz.func63 (by kernel_rfl) rfl
   ·exact enters_of Tryz.func65 (by kernel_rfl) rfl) (show 1 <= 90 by decide) 2 rfl
 refine (hcall _ hW3.symm).mono ?_
 clear hcall hW3 b3
 rintro e V ⟨rfl, hk⟩
 have K4 := hHd (K3.out.trans hk)
 clear hk k3
 go_wp2_with fail
 go_ret2
 exact ⟨rfl, K4.out⟩
theorem ppage_nil (i : Int) (w : World) :
  Calls Tryz.prog 19 #[.pointer none, .int .i64 i] w fun e w' => e = .returned (.tuple #[.slice none 0 0, .int .i64 1]) /\ Kp (fun _ => False) w w' := by
 go_enter Tryz.func19, Tryz.ntmps19
 go_wp2_with fail
 refine (phasv_nil i w).mono ?_
 rintro e w1 ⟨ga, gb, rfl, hk1⟩
 have K1 := hHd hk1
 clear hk1
 go_wp2_with fail
 obtain ⟨W3, hW3, b3, k3⟩ : ∃ W3, W3 = w1.alloc (.cells ([(Stp.mk 63 #[.pointer none] #[]), (Stp.mk 117 #[] #[.pointer (some ⟨gb, 0, none⟩), .pointer (some ⟨ga, 0, none⟩)]), (Stp.mk 65 #[.pointer none] #[])].map Stp.v).toArray 104) /\ Box W3 w1.heap.size 104 ([(Stp.mk 63 #[.pointer none] #[]), (Stp.mk 117 #[] #[.pointer (some ⟨gb, 0, none⟩), .pointer (some ⟨ga, 0, none⟩)]), (Stp.mk 65 #[.pointer none] #[])].map Stp.v).toArray /\ Kp (fun _ => False) w1 W3 := ⟨_, rfl, Box.new w1 _ _, (Kp.refl _ w1).alloc _⟩
 have K3 := hHd (K1.out.trans k3)
 have hcall : ∀ W, W = W3 -> Calls Tryz.prog 42 #[.slice (some ⟨w1.heap.size, 0, none⟩) 3 3] W _ := fun W e => by
  rw [e]
  exact order_nil [(Stp.mk 117 #[] #[.pointer (some ⟨gb, 0, none⟩), .pointer (some ⟨ga, 0, none⟩)]), (Stp.mk 65 #[.pointer none] #[])] w1.heap.size 3 W3 b3 (fun st hst => by
   simp only [List.mem_cons, List.not_mem_nil, or_false] at hst
   rcases hst with rfl | rfl | rfl
   ·exact enters_of Tryz.func63 (by kernel_rfl) rfl
   ·exact enters_of Tryz.func117 (by kernel_rfl) rfl
   ·exact enters_of Tryz.func65 (by kernel_rfl) rfl) (show 2 <= 90 by decide) 3 rfl
 refine (hcall _ hW3.symm).mono ?_
 clear hcall hW3 b3
 rintro e V ⟨rfl, hk⟩
 have K4 := hHd (K3.out.trans hk)
 clear hk k3
 go_wp2_with fail
 go_ret2
 exact ⟨rfl, K4.out⟩
theorem pfree_nil (i : Int) (w : World) :
  Calls Tryz.prog 23 #[.pointer none, .int .i64 i] w fun e w' => e = .returned (.int .i64 1) /\ Kp (fun _ => False) w w' := by
 go_enter Tryz.func23, Tryz.ntmps23
 go_wp2_with fail
 refine (phasv_nil i w).mono ?_
 rintro e w1 ⟨ga, gb, rfl, hk1⟩
 have K1 := hHd hk1
 clear hk1
 go_wp2_with fail
 refine (pfreev_nil i w1).mono ?_
 rintro e w2 ⟨gc, ge, rfl, hk2⟩
 have K2 := hHd (K1.out.trans hk2)
 clear hk2
 go_wp2_with fail
 obtain ⟨W3, hW3, b3, k3⟩ : ∃ W3, W3 = w2.alloc (.cells ([(Stp.mk 63 #[.pointer none] #[]), (Stp.mk 117 #[] #[.pointer (some ⟨gb, 0, none⟩), .pointer (some ⟨ga, 0, none⟩)]), (Stp.mk 124 #[] #[.pointer (some ⟨ge, 0, none⟩), .pointer (some ⟨gc, 0, none⟩)]), (Stp.mk 65 #[.pointer none] #[])].map Stp.v).toArray 104) /\ Box W3 w2.heap.size 104 ([(Stp.mk 63 #[.pointer none] #[]), (Stp.mk 117 #[] #[.pointer (some ⟨gb, 0, none⟩), .pointer (some ⟨ga, 0, none⟩)]), (Stp.mk 124 #[] #[.pointer (some ⟨ge, 0, none⟩), .pointer (some ⟨gc, 0, none⟩)]), (Stp.mk 65 #[.pointer none] #[])].map Stp.v).toArray /\ Kp (fun _ => False) w2 W3 := ⟨_, rfl, Box.new w2 _ _, (Kp.refl _ w2).alloc _⟩
 have K3 := hHd (K2.out.trans k3)
 have hcall : ∀ W, W = W3 -> Calls Tryz.prog 42 #[.slice (some ⟨w2.heap.size, 0, none⟩) 4 4] W _ := fun W e => by
  rw [e]
  exact order_nil [(Stp.mk 117 #[] #[.pointer (some ⟨gb, 0, none⟩), .pointer (some ⟨ga, 0, none⟩)]), (Stp.mk 124 #[] #[.pointer (some ⟨ge, 0, none⟩), .pointer (some ⟨gc, 0, none⟩)]), (Stp.mk 65 #[.pointer none] #[])] w2.heap.size 4 W3 b3 (fun st hst => by
   simp only [List.mem_cons, List.not_mem_nil, or_false] at hst
   rcases hst with rfl | rfl | rfl | rfl
   ·exact enters_of Tryz.func63 (by kernel_rfl) rfl
   ·exact enters_of Tryz.func117 (by kernel_rfl) rfl
   ·exact enters_of Tryz.func124 (by kernel_rfl) rfl
   ·exact enters_of Tryz.func65 (by kernel_rfl) rfl) (show 3 <= 90 by decide) 4 rfl
 refine (hcall _ hW3.symm).mono ?_
 clear hcall hW3 b3
 rintro e V ⟨rfl, hk⟩
 have K4 := hHd (K3.out.trans hk)
 clear hk k3
 go_wp2_with fail
 go_ret
 exact ⟨rfl, K4.out⟩
theorem pput_nil (i : Int) (w : World) :
  Calls Tryz.prog 22 #[.pointer none, .int .i64 i, .slice none 0 0] w fun e w' => e = .returned (.int .i64 1) /\ Kp (fun _ => False) w w' := by
 go_enter Tryz.func22, Tryz.ntmps22
 go_wp2_with fail
 refine (phasv_nil i w).mono ?_
 rintro e w1 ⟨ga, gb, rfl, hk1⟩
 have K1 := hHd hk1
 clear hk1
 go_wp2_with fail
 refine (pputv_any (.pointer none) i none 0 0 w1).mono ?_
 rintro e w2 ⟨gc, ge, rfl, _, _, hk2⟩
 have K2 := hHd (K1.out.trans hk2)
 clear hk2
 go_wp2_with fail
 obtain ⟨W3, hW3, b3, k3⟩ : ∃ W3, W3 = w2.alloc (.cells ([(Stp.mk 63 #[.pointer none] #[]), (Stp.mk 117 #[] #[.pointer (some ⟨gb, 0, none⟩), .pointer (some ⟨ga, 0, none⟩)]), (Stp.mk 123 #[] #[.pointer (some ⟨gc, 0, none⟩), .pointer (some ⟨ge, 0, none⟩)]), (Stp.mk 65 #[.pointer none] #[])].map Stp.v).toArray 104) /\ Box W3 w2.heap.size 104 ([(Stp.mk 63 #[.pointer none] #[]), (Stp.mk 117 #[] #[.pointer (some ⟨gb, 0, none⟩), .pointer (some ⟨ga, 0, none⟩)]), (Stp.mk 123 #[] #[.pointer (some ⟨gc, 0, none⟩), .pointer (some ⟨ge, 0, none⟩)]), (Stp.mk 65 #[.pointer none] #[])].map Stp.v).toArray /\ Kp (fun _ => False) w2 W3 := ⟨_, rfl, Box.new w2 _ _, (Kp.refl _ w2).alloc _⟩
 have K3 := hHd (K2.out.trans k3)
 have hcall : ∀ W, W = W3 -> Calls Tryz.prog 42 #[.slice (some ⟨w2.heap.size, 0, none⟩) 4 4] W _ := fun W e => by
  rw [e]
  exact order_nil [(Stp.mk 117 #[] #[.pointer (some ⟨gb, 0, none⟩), .pointer (some ⟨ga, 0, none⟩)]), (Stp.mk 123 #[] #[.pointer (some ⟨gc, 0, none⟩), .pointer (some ⟨ge, 0, none⟩)]), (Stp.mk 65 #[.pointer none] #[])] w2.heap.size 4 W3 b3 (fun st hst => by
   simp only [List.mem_cons, List.not_mem_nil, or_false] at hst
   rcases hst with rfl | rfl | rfl | rfl
   ·exact enters_of Tryz.func63 (by kernel_rfl) rfl
   ·exact enters_of Tryz.func117 (by kernel_rfl) rfl
   ·exact enters_of Tryz.func123 (by kernel_rfl) rfl
   ·exact enters_of Tryz.func65 (by kernel_rfl) rfl) (show 3 <= 90 by decide) 4 rfl
 refine (hcall _ hW3.symm).mono ?_
 clear hcall hW3 b3
 rintro e V ⟨rfl, hk⟩
 have K4 := hHd (K3.out.trans hk)
 clear hk k3
 go_wp2_with fail
 go_ret
 exact ⟨rfl, K4.out⟩
theorem pcommit_nil (w : World) :
  Calls Tryz.prog 24 #[.pointer none] w fun e w' => e = .returned (.int .i64 1) /\ Kp (fun _ => False) w w' := by
 go_enter Tryz.func24, Tryz.ntmps24
 go_upto_region 1 with fail
 obtain ⟨W0, hW0, b0, k0⟩ : ∃ W0, W0 = w.alloc (.cells #[.pointer none] 31) /\ Box W0 w.heap.size 31 #[.pointer none] /\ Kp (fun _ => False) w W0 := ⟨_, rfl, Box.new w _ _, (Kp.refl _ w).alloc _⟩
 rw [<- hW0]
 have K0 := hHd k0
 have y := b0.cell 0
 clear hW0 b0 k0
 go_wp2_with fail
 obtain ⟨W3, hW3, b3, k3⟩ : ∃ W3, W3 = W0.alloc (.cells ([(Stp.mk 63 #[.pointer none] #[]), (Stp.mk 65 #[.pointer none] #[])].map Stp.v).toArray 104) /\ Box W3 W0.heap.size 104 ([(Stp.mk 63 #[.pointer none] #[]), (Stp.mk 65 #[.pointer none] #[])].map Stp.v).toArray /\ Kp (fun _ => False) W0 W3 := ⟨_, rfl, Box.new W0 _ _, (Kp.refl _ W0).alloc _⟩
 have K3 := hHd (K0.out.trans k3)
 have hcall : ∀ W, W = W3 -> Calls Tryz.prog 42 #[.slice (some ⟨W0.heap.size, 0, none⟩) 2 2] W _ := fun W e => by
  rw [e]
  exact order_nil [(Stp.mk 65 #[.pointer none] #[])] W0.heap.size 2 W3 b3 (fun st hst => by
   simp only [List.mem_cons, List.not_mem_nil, or_false] at hst
   rcases hst with rfl | rfl
   ·exact enters_of Tryz.func63 (by kernel_rfl) rfl
   ·exact enters_of Tryz.func65 (by kernel_rfl) rfl) (show 1 <= 90 by decide) 2 rfl
 refine (hcall _ hW3.symm).mono ?_
 clear hcall hW3 b3
 rintro e V ⟨rfl, hk⟩
 have K4 := hHd (K3.out.trans hk)
 clear hk k3
 go_wp2_with fail
 go_ret
 exact ⟨rfl, K4.out⟩
theorem used_blank (n : Nat) (h : 0 < n) : Bt.cntF usedO n = 1 := by
 obtain ⟨k, rfl⟩ : ∃ k, n = k + 1 := ⟨n - 1, by omega⟩
 clear h
 induction k with
 |zero => decide +kernel
 |succ k ih =>
  rw [Bt.cntF_one, ih]
  simp [usedO]
theorem blank_cmn (n : Nat) (h0 : 0 < n) (h : n <= 1024) : Cm blankC usedO n := ⟨rfl, ⟨h, fun i hi => by simp [usedO]; omega⟩, rfl⟩
theorem new_openS (m : Nat) : (newDm m).openS = (none, 12) /\ (newDm m).heads = none := by
 have hh : (newDm m).heads = none := by
  unfold Dm.heads
  rw [Up.now rfl]
  exact fresh_heads m
 refine ⟨?_, hh⟩
 unfold Dm.openS
 rw [hh]
 rfl
theorem pform_yes (m L n : Nat) (m1 : 1 <= m) (m2 : m <= 1500) (l1 : 96 <= L) (l2 : L <= 512) (p1 : 64 <= n) (p2 : n <= 1024) (note : List UInt8) (hn : note.length <= 40) (hin : 2 + L + n <= m) (w : World) (tb : Tbl w) (tbb : Bt.Tbl w) :
  Calls Tryz.prog 4 #[.int .u16 m, .int .i64 L, .int .i64 n, .string ⟨note.toArray⟩] w fun e w' => e = .returned (.bool true) /\ Kp (fun k => w.heap.size <= k) w w' := by
 have L1 := hHd l1
 have L2 := hHd l2
 have P1 := hHd p1
 have P2 := hHd p2
 have HN := hHd hn
 have HIN := hHd hin
 have TB := hHd tb
 have TBB := hHd tbb
 have HM1 := hHd m1
 have HM2 := hHd m2
 have hs := note_size note
 have a1 : ¬ ((m : Int) < 1) := by omega
 have a2 : ¬ (1500 < (m : Int)) := by omega
 have a3 : ¬ (100 < (note.length : Int)) := by omega
 have e3 : IntKind.i64.wrap (m : Int) = (m : Int) := IntWalk.i64_in _ (by omega)
 clear tb tbb m1 m2
 have b1 : (96 : Int) <= L := by omega
 have b2 : (L : Int) <= 512 := by omega
 have b3 : (64 : Int) <= n := by omega
 have b4 : (n : Int) <= 1024 := by omega
 have b5 : (note.length : Int) <= 40 := by omega
 have b7 : (1 : Int) < m := by omega
 obtain ⟨q, hq⟩ : ∃ q, 2 + L = q := ⟨_, rfl⟩
 obtain ⟨r, hr⟩ : ∃ r, q + n = r := ⟨_, rfl⟩
 have e1 : IntKind.i64.wrap (2 + (L : Int)) = (q : Int) := by rw [IntWalk.i64_in _ (by omega)]; omega
 have e2 : IntKind.i64.wrap ((q : Int) + n) = (r : Int) := by rw [IntWalk.i64_in _ (by omega)]; omega
 have b6 : (r : Int) <= m := by omega
 have HR := hHd (show 2 + L + n = r by omega)
 clear l1 l2 p1 p2 hn hin hq hr
 go_enter Tryz.func4, Tryz.ntmps4
 go_wp2_with fail
 clear a1 a3
 refine (dnew_any m HM1.out (by have := HM2.out; omega) w).mono ?_
 rintro e w1 ⟨b, rfl, hd, hk1⟩
 have D1 := hHd hd
 have K1 := hHd (hk1.of_false (S := fun k => w.heap.size <= k))
 clear hd hk1
 go_wp2_with fail
 refine (popen_none D1.out (TB.out.kp K1.out (fun e => by have := tbl_low TB.out; omega)) (fun h a e => by rw [(new_openS m).2] at e; cases e) (new_openS m).1 (by decide)).mono ?_
 rintro e w2 ⟨rfl, hk2⟩
 have D2 := hHd (D1.out.still hk2)
 have K2 := hHd (K1.out.trans hk2.of_false)
 clear hk2
 go_wp2_with fail
 have hon : (newDm m).on = List.replicate m zsec0 := rfl
 have hup : Up (newDm m) := ⟨rfl, rfl⟩
 obtain ⟨f1, f2, f3, f4, f5⟩ := formP_out hup rfl L n m hon note L1.out L2.out HIN.out (by have := HN.out; omega)
 have hfm := pformat_ok (F := fun k => w.heap.size <= k) (fun k hk => Nat.le_trans K2.out.size hk) (by have := tbl_low TB.out; omega) D2.out (TB.out.kp K2.out (fun e => by have := tbl_low TB.out; omega)) L n note L1.out L2.out P1.out P2.out HN.out (by rw [hon, List.length_replicate]; exact HIN.out) (by show 0 + 4000 < 1073741824; decide)
 rw [f1] at hfm
 obtain ⟨d2, hd2⟩ : ∃ d2, ((newDm m).formP L n note).1 = d2 := ⟨_, rfl⟩
 rw [hd2] at f2 f3 f5 hfm
 have UP2 := hHd f2
 have LIT2 := hHd f3
 have RC2 := hHd f5
 clear hon hup f1 f2 f3 f4 f5 hd2
 refine hfm.mono ?_
 clear hfm
 rintro e w3 ⟨rfl, hd3, hk3⟩
 have D3 := hHd hd3
 have K3 := hHd (K2.out.trans hk3)
 clear hd3 hk3
 go_wp2_with fail
 refine (open_law (F := fun k => w.heap.size <= k) (fun k hk => Nat.le_trans K3.out.size hk) (by have := tbl_low TB.out; omega) D3.out (TB.out.kp K3.out (fun e => by have := tbl_low TB.out; omega)) UP2.out RC2.out (blank_cmn n (by have := P1.out; omega) P2.out) (by decide) P1.out HN.out).mono ?_
 rintro e w4 ⟨hk4, ⟨gs, gl, g1, g2, s, d, rfl, hsto, hst, n1, n2, n3, n4, hlit⟩ | ⟨d', _, hl, _⟩⟩
 ·have S4 := hHd hsto
  have E1 := hHd n1
  have E2 := hHd (show s.n = n from hst.hs)
  have E3 := hHd (show s.l.h.n = L from hst.hL)
  have E4 := hHd (show (Bt.cntF s.cused s.n : Nat) = 1 by rw [n3, hst.hs]; exact used_blank n (by have := P1.out; omega))
  have K4 := hHd (K3.out.trans hk4)
  clear hsto hst n1 n2 n3 n4 hlit hk4
  go_wp2_with fail
  refine (pnote_sto S4.out).mono ?_
  rintro e v0 ⟨rfl, rfl⟩
  rw [E1.out]
  go_wp2_with fail
  refine (ppages_any S4.out).mono ?_
  rintro e w5 ⟨rfl, hk5⟩
  rw [E2.out]
  have S5 := hHd (S4.out.still hk5)
  have K5 := hHd (K4.out.trans hk5.of_false)
  clear hk5
  go_wp2_with fail
  refine (pbehind_sto S5.out (by rw [E3.out]; have := L2.out; omega)).mono ?_
  rintro e w6 ⟨rfl, hk6⟩
  rw [E2.out, E3.out, HR.out]
  have S6 := hHd (S5.out.still hk6)
  have K6 := hHd (K5.out.trans hk6.of_false)
  clear hk6
  go_wp2_with fail
  refine (pused_sto S6.out).mono ?_
  rintro e w7 ⟨rfl, hk7⟩
  rw [E4.out]
  have K7 := hHd (K6.out.trans hk7.of_false)
  clear hk7
  go_wp2_with fail
  as_aux_lemma =>
   refine (popen_nil _).mono ?_
   rintro e v1 ⟨rfl, hk1⟩
   have Q1 := hHd (K7.out.trans hk1.of_false)
   clear hk1
   go_wp2_with fail
   refine (ppage_nil 0 _).mono ?_
   rintro e v2 ⟨rfl, hk2⟩
   have Q2 := hHd (Q1.out.trans hk2.of_false)
   clear hk2
   go_wp2_with fail
   refine (palloc_nil _).mono ?_
   rintro e v3 ⟨rfl, hk3⟩
   have Q3 := hHd (Q2.out.trans hk3.of_false)
   clear hk3
   go_wp2_with fail
   refine (pabort_nil _).mono ?_
   rintro e v4 ⟨rfl, rfl⟩
   go_wp2_with fail
   as_aux_lemma =>
    refine (pput_nil 1 _).mono ?_
    rintro e v5 ⟨rfl, hk5⟩
    have Q5 := hHd (Q3.out.trans hk5.of_false)
    clear hk5
    go_wp2_with fail
    refine (pfree_nil 1 _).mono ?_
    rintro e v6 ⟨rfl, hk6⟩
    have Q6 := hHd (Q5.out.trans hk6.of_false)
    clear hk6
    go_wp2_with fail
    refine (pcommit_nil _).mono ?_
    rintro e v7 ⟨rfl, hk7⟩
    have Q7 := hHd (Q6.out.trans hk7.of_false)
    clear hk7
    go_wp2_with fail
    as_aux_lemma =>
     refine (pused_nil _).mono ?_
     rintro e v8 ⟨rfl, rfl⟩
     go_wp2_with fail
     refine (pchanged_nil _).mono ?_
     rintro e v9 ⟨rfl, rfl⟩
     go_wp2_with fail
     refine (pdisk_nil _).mono ?_
     rintro e v10 ⟨rfl, rfl⟩
     go_wp2_with fail
     refine (ppages_nil _).mono ?_
     rintro e v11 ⟨rfl, rfl⟩
     go_wp2_with fail
     refine (pbehind_nil _).mono ?_
     rintro e v12 ⟨rfl, rfl⟩
     go_wp2_with fail
     as_aux_lemma =>
      refine (pnote_nil _).mono ?_
      rintro e v13 ⟨rfl, rfl⟩
      go_wp2_with fail
      refine (pformat_nil _ _ _ _).mono ?_
      rintro e v14 ⟨rfl, hk14⟩
      have Q14 := hHd (Q7.out.trans hk14.of_false)
      clear hk14
      go_wp2_with fail
      have T9 := TB.out.kp Q14.out (fun e => by have := tbl_low TB.out; omega)
      have T9b := TBB.out.kp Q14.out (fun e => by have := btbl_low TBB.out; omega)
      refine (pwakes_true _ T9 T9b).mono ?_
      rintro e w9 ⟨rfl, hk9⟩
      have K9 := hHd (Q14.out.trans hk9.of_false)
      clear hk9 T9 T9b
      go_wp2_with fail
      go_ret
      exact ⟨rfl, K9.out⟩
 ·exact absurd (LIT2.out.symm.trans hl) (by decide)
end Go.Proofs.YtepaeliamhjgiaaGreatDoor
