/- The law of pages, part 31 of 55: PgFmt PgStb. -/
import Derived.Test.YtepaeliamhjgiaaGreatDoorMu1
import Derived.Test.YtepaeliamhjgiaaGreatDoorMu30
import Derived.Test.YtepaeliamhjgiaaGreatDoorMu28
set_option maxHeartbeats 16000000
set_option maxRecDepth 100000
namespace Go.Proofs.YtepaeliamhjgiaaGreatDoor
open Go.RowKit Go.Maps Go.Shelf
def mayP (d : Dm) (L n : Int) (note : List UInt8) : Bool := plogB L && ppgsB n && decide (note.length <= 40) && decide (2 + L + n <= d.on.length)
theorem pformat_nil (L n : Int) (s : ByteArray) (w : World) :
  Calls Tryz.prog 14 #[.pointer none, .int .i64 L, .int .i64 n, .string s] w fun e w' => e = .returned (.int .i64 1) /\ Kp (fun _ => False) w w' := by
 go_enter Tryz.func14, Tryz.ntmps14
 go_wp2_with fail
 go_ret
 exact ⟨rfl, ((((Kp.refl _ w).alloc _).alloc _).alloc _).alloc _⟩
section
variable {F : Nat -> Prop} {w : World} {b : Nat} {d : Dm}
theorem pformat_no (hD : Dsk F w b d) (L n : Int) (note : List UInt8) (hm : mayP d L n note = false) :
  Calls Tryz.prog 14 #[.pointer (some ⟨b, 0, none⟩), .int .i64 L, .int .i64 n, .string ⟨note.toArray⟩] w fun e w' => e = .returned (.int .i64 2) /\ Kp (fun _ => False) w w' := by
 have DD := hHd hD
 obtain ⟨W4, hW4, bd, bl, bp, bn, hk4⟩ : ∃ W4, W4 = (((w.alloc (.cells #[.pointer (some ⟨b, 0, none⟩)] 35)).alloc (.cells #[.int .i64 L] 3)).alloc (.cells #[.int .i64 n] 3)).alloc (.cells #[.string ⟨note.toArray⟩] 9) /\ Box W4 w.heap.size 35 #[.pointer (some ⟨b, 0, none⟩)] /\ Box W4 (w.heap.size + 1) 3 #[.int .i64 L] /\ Box W4 (w.heap.size + 1 + 1) 3 #[.int .i64 n] /\ Box W4 (w.heap.size + 1 + 1 + 1) 9 #[.string ⟨note.toArray⟩] /\ Kp (fun _ => False) w W4 := by
  refine ⟨_, rfl, ?_, ?_, ?_, ?_, ((((Kp.refl _ w).alloc _).alloc _).alloc _).alloc _⟩
  ·exact (((Box.new w _ _).alloc _).alloc _).alloc _
  ·have := Box.new (w.alloc (.cells #[.pointer (some ⟨b, 0, none⟩)] 35)) 3 #[.int .i64 L]
   rw [World.size_alloc] at this
   exact (this.alloc _).alloc _
  ·have := Box.new ((w.alloc (.cells #[.pointer (some ⟨b, 0, none⟩)] 35)).alloc (.cells #[.int .i64 L] 3)) 3 #[.int .i64 n]
   rw [World.size_alloc, World.size_alloc] at this
   exact this.alloc _
  ·have := Box.new (((w.alloc (.cells #[.pointer (some ⟨b, 0, none⟩)] 35)).alloc (.cells #[.int .i64 L] 3)).alloc (.cells #[.int .i64 n] 3)) 9 #[.string ⟨note.toArray⟩]
   rwa [World.size_alloc, World.size_alloc, World.size_alloc] at this
 obtain ⟨gd, hgd⟩ : ∃ gd, w.heap.size = gd := ⟨_, rfl⟩
 obtain ⟨gl, hgl⟩ : ∃ gl, gd + 1 = gl := ⟨_, rfl⟩
 obtain ⟨gp, hgp⟩ : ∃ gp, gl + 1 = gp := ⟨_, rfl⟩
 obtain ⟨gn, hgn⟩ : ∃ gn, gp + 1 = gn := ⟨_, rfl⟩
 rw [hgd, hgl] at bl
 rw [hgd, hgl, hgp] at bp
 rw [hgd, hgl, hgp, hgn] at bn
 rw [hgd] at bd
 have HW4 := hHd hW4
 have HGD := hHd hgd
 have HGL := hHd hgl
 have HGP := hHd hgp
 have HGN := hHd hgn
 have BD := hHd bd
 have BL := hHd bl
 have BP := hHd bp
 have BN := hHd bn
 have K4 := hHd hk4
 have HD0 := hHd ((DD.out.still hk4).still (Kp.refl (fun _ => False) W4).drew)
 have zd : W4.drew.cell? ⟨gd, 0, none⟩ = some (.pointer (some ⟨b, 0, none⟩)) := bd.cell 0
 have zl : W4.drew.cell? ⟨gl, 0, none⟩ = some (.int .i64 L) := bl.cell 0
 have zp : W4.drew.cell? ⟨gp, 0, none⟩ = some (.int .i64 n) := bp.cell 0
 have zn : W4.drew.cell? ⟨gn, 0, none⟩ = some (.string ⟨note.toArray⟩) := bn.cell 0
 have yd : W4.cell? ⟨gd, 0, none⟩ = some (.pointer (some ⟨b, 0, none⟩)) := bd.cell 0
 clear bd bl bp bn hk4 hW4 hgd hgl hgp hgn
 rcases h1 : plogB L with _ | _
 ·clear hD hm
  go_enter Tryz.func14, Tryz.ntmps14
  go_upto_region 1 with fail
  rw [HGD.out, HGL.out, HGP.out, HGN.out, <- HW4.out]
  go_upto_region 3 with fail
  refine wp_region_held_drew (S := fun v => v.cell? ⟨gl, 0, none⟩ = some (.int .i64 L) /\ v.cell? ⟨gp, 0, none⟩ = some (.int .i64 n) /\ v.cell? ⟨gn, 0, none⟩ = some (.string ⟨note.toArray⟩) /\ v.cell? ⟨gd, 0, none⟩ = some (.pointer (some ⟨b, 0, none⟩))) (by kernel_rfl) (⟨zl, zp, zn, zd⟩) (fun hHeld => ?_)
  refine tk 0 (h := ?_)
  refine rd 1 (h := fun K hK => ?_)
  go_simp
  refine (plog_any L _).mono ?_
  rintro e w9 ⟨rfl, rfl⟩
  rw [h1]
  go_wp2_with fail
  refine hK.out _ _ (⟨zl, zp, zn, zd⟩) (fun hHeld1 => ?_)
  clear hK K
  try simp only [Act.put, sIa, sI0, sI1]
  refine tk 2 (h := ?_)
  refine tk 3 (h := ?_)
  refine sk 4 (h := ?_)
  refine sk 5 (h := ?_)
  refine sk 6 (h := ?_)
  refine tk 7 (h := ?_)
  refine tk 8 (h := ?_)
  refine sk 9 (h := ?_)
  refine sk 10 (h := ?_)
  refine sk 11 (h := ?_)
  refine tk 12 (h := ?_)
  refine tk 13 (h := ?_)
  refine sk 14 (h := ?_)
  refine sk 15 (h := ?_)
  refine sk 16 (h := ?_)
  refine sk 17 (h := ?_)
  refine sk 18 (h := ?_)
  refine sk 19 (h := ?_)
  refine tk 20 (h := ?_)
  refine wpAnyH_done (by kernel_rfl) ?_ _
  go_wp2_with fail
  go_ret
  exact ⟨rfl, (K4.out.drew)⟩
 rcases h2 : ppgsB n with _ | _
 ·clear hD hm
  go_enter Tryz.func14, Tryz.ntmps14
  go_upto_region 1 with fail
  rw [HGD.out, HGL.out, HGP.out, HGN.out, <- HW4.out]
  go_upto_region 3 with fail
  refine wp_region_held_drew (S := fun v => v.cell? ⟨gl, 0, none⟩ = some (.int .i64 L) /\ v.cell? ⟨gp, 0, none⟩ = some (.int .i64 n) /\ v.cell? ⟨gn, 0, none⟩ = some (.string ⟨note.toArray⟩) /\ v.cell? ⟨gd, 0, none⟩ = some (.pointer (some ⟨b, 0, none⟩))) (by kernel_rfl) (⟨zl, zp, zn, zd⟩) (fun hHeld => ?_)
  refine tk 0 (h := ?_)
  refine rd 1 (h := fun K hK => ?_)
  go_simp
  refine (plog_any L _).mono ?_
  rintro e w9 ⟨rfl, rfl⟩
  rw [h1]
  go_wp2_with fail
  refine hK.out _ _ (⟨zl, zp, zn, zd⟩) (fun hHeld2 => ?_)
  clear hK K
  try simp only [Act.put, sIa, sI0, sI1]
  refine tk 2 (h := ?_)
  refine tk 3 (h := ?_)
  refine tk 4 (h := ?_)
  refine rd 5 (h := fun K hK => ?_)
  go_simp
  refine (ppgs_any n _).mono ?_
  rintro e w9 ⟨rfl, rfl⟩
  rw [h2]
  go_wp2_with fail
  refine hK.out _ _ (⟨zl, zp, zn, zd⟩) (fun hHeld3 => ?_)
  clear hK K
  try simp only [Act.put, sIa, sI0, sI1]
  refine tk 6 (h := ?_)
  refine tk 7 (h := ?_)
  refine tk 8 (h := ?_)
  refine sk 9 (h := ?_)
  refine sk 10 (h := ?_)
  refine sk 11 (h := ?_)
  refine tk 12 (h := ?_)
  refine tk 13 (h := ?_)
  refine sk 14 (h := ?_)
  refine sk 15 (h := ?_)
  refine sk 16 (h := ?_)
  refine sk 17 (h := ?_)
  refine sk 18 (h := ?_)
  refine sk 19 (h := ?_)
  refine tk 20 (h := ?_)
  refine wpAnyH_done (by kernel_rfl) ?_ _
  go_wp2_with fail
  go_ret
  exact ⟨rfl, (K4.out.drew)⟩
 rcases h3 : decide (note.length <= 40) with _ | _
 ·clear hD hm
  go_enter Tryz.func14, Tryz.ntmps14
  go_upto_region 1 with fail
  rw [HGD.out, HGL.out, HGP.out, HGN.out, <- HW4.out]
  go_upto_region 3 with fail
  refine wp_region_held_drew (S := fun v => v.cell? ⟨gl, 0, none⟩ = some (.int .i64 L) /\ v.cell? ⟨gp, 0, none⟩ = some (.int .i64 n) /\ v.cell? ⟨gn, 0, none⟩ = some (.string ⟨note.toArray⟩) /\ v.cell? ⟨gd, 0, none⟩ = some (.pointer (some ⟨b, 0, none⟩))) (by kernel_rfl) (⟨zl, zp, zn, zd⟩) (fun hHeld => ?_)
  refine tk 0 (h := ?_)
  refine rd 1 (h := fun K hK => ?_)
  go_simp
  refine (plog_any L _).mono ?_
  rintro e w9 ⟨rfl, rfl⟩
  rw [h1]
  go_wp2_with fail
  refine hK.out _ _ (⟨zl, zp, zn, zd⟩) (fun hHeld4 => ?_)
  clear hK K
  try simp only [Act.put, sIa, sI0, sI1]
  refine tk 2 (h := ?_)
  refine tk 3 (h := ?_)
  refine tk 4 (h := ?_)
  refine rd 5 (h := fun K hK => ?_)
  go_simp
  refine (ppgs_any n _).mono ?_
  rintro e w9 ⟨rfl, rfl⟩
  rw [h2]
  go_wp2_with fail
  refine hK.out _ _ (⟨zl, zp, zn, zd⟩) (fun hHeld5 => ?_)
  clear hK K
  try simp only [Act.put, sIa, sI0, sI1]
  refine tk 6 (h := ?_)
  refine tk 7 (h := ?_)
  refine tk 8 (h := ?_)
  refine tk 9 (h := ?_)
  refine rd 10 (h := fun K hK => ?_)
  go_simp
  refine (pnote_any note _).mono ?_
  rintro e w9 ⟨rfl, rfl⟩
  rw [h3]
  go_wp2_with fail
  refine hK.out _ _ (⟨zl, zp, zn, zd⟩) (fun hHeld6 => ?_)
  clear hK K
  try simp only [Act.put, sIa, sI0, sI1]
  refine tk 11 (h := ?_)
  refine tk 12 (h := ?_)
  refine tk 13 (h := ?_)
  refine sk 14 (h := ?_)
  refine sk 15 (h := ?_)
  refine sk 16 (h := ?_)
  refine sk 17 (h := ?_)
  refine sk 18 (h := ?_)
  refine sk 19 (h := ?_)
  refine tk 20 (h := ?_)
  refine wpAnyH_done (by kernel_rfl) ?_ _
  go_wp2_with fail
  go_ret
  exact ⟨rfl, (K4.out.drew)⟩
 obtain ⟨l1, l2⟩ : 96 <= L /\ L <= 512 := by simpa [plogB] using h1
 obtain ⟨p1, p2⟩ : 64 <= n /\ n <= 1024 := by simpa [ppgsB] using h2
 have hlen : ¬ (2 + L + n <= d.on.length) := by
  intro h4
  unfold mayP at hm
  rw [h1, h2, h3, decide_eq_true h4] at hm
  cases hm
 obtain ⟨L', rfl⟩ := Int.eq_ofNat_of_zero_le (show 0 <= L by omega)
 obtain ⟨n', rfl⟩ := Int.eq_ofNat_of_zero_le (show 0 <= n by omega)
 have HSEC := hHd (fun (v : World) => psector_any L' n' (by omega) (by omega) v)
 have h4 : decide (d.on.length < 2 + L' + n') = true := by simp; omega
 have h4' : decide ((d.on.length : Int) < ((2 + L' + n' : Nat) : Int)) = true := by simp; omega
 generalize 2 + L' + n' = q at HSEC h4 h4'
 clear hD hm l1 l2 p1 p2 hlen
 go_enter Tryz.func14, Tryz.ntmps14
 go_upto_region 1 with fail
 rw [HGD.out, HGL.out, HGP.out, HGN.out, <- HW4.out]
 go_upto_region 3 with fail
 refine wp_region_held_drew (S := fun v => v.cell? ⟨gl, 0, none⟩ = some (.int .i64 L') /\ v.cell? ⟨gp, 0, none⟩ = some (.int .i64 n') /\ v.cell? ⟨gn, 0, none⟩ = some (.string ⟨note.toArray⟩) /\ v.cell? ⟨gd, 0, none⟩ = some (.pointer (some ⟨b, 0, none⟩))) (by kernel_rfl) (⟨zl, zp, zn, zd⟩) (fun hHeld => ?_)
 refine tk 0 (h := ?_)
 refine rd 1 (h := fun K hK => ?_)
 go_simp
 refine (plog_any L' _).mono ?_
 rintro e w9 ⟨rfl, rfl⟩
 rw [h1]
 go_wp2_with fail
 refine hK.out _ _ (⟨zl, zp, zn, zd⟩) (fun hHeld7 => ?_)
 clear hK K
 try simp only [Act.put, sIa, sI0, sI1]
 refine tk 2 (h := ?_)
 refine tk 3 (h := ?_)
 refine tk 4 (h := ?_)
 refine rd 5 (h := fun K hK => ?_)
 go_simp
 refine (ppgs_any n' _).mono ?_
 rintro e w9 ⟨rfl, rfl⟩
 rw [h2]
 go_wp2_with fail
 refine hK.out _ _ (⟨zl, zp, zn, zd⟩) (fun hHeld8 => ?_)
 clear hK K
 try simp only [Act.put, sIa, sI0, sI1]
 refine tk 6 (h := ?_)
 refine tk 7 (h := ?_)
 refine tk 8 (h := ?_)
 refine tk 9 (h := ?_)
 refine rd 10 (h := fun K hK => ?_)
 go_simp
 refine (pnote_any note _).mono ?_
 rintro e w9 ⟨rfl, rfl⟩
 rw [h3]
 go_wp2_with fail
 refine hK.out _ _ (⟨zl, zp, zn, zd⟩) (fun hHeld9 => ?_)
 clear hK K
 try simp only [Act.put, sIa, sI0, sI1]
 refine tk 11 (h := ?_)
 refine tk 12 (h := ?_)
 refine tk 13 (h := ?_)
 refine tk 14 (h := ?_)
 refine tk 15 (h := ?_)
 refine tk 17 (h := ?_)
 refine rd 16 (h := fun K hK => ?_)
 go_simp
 refine (HSEC.out _).mono ?_
 rintro e w9 ⟨rfl, rfl⟩
 skip
 go_wp2_with fail
 refine hK.out _ _ (⟨zl, zp, zn, zd⟩) (fun hHeld10 => ?_)
 clear hK K
 try simp only [Act.put, sIa, sI0, sI1]
 refine rd 18 (h := fun K hK => ?_)
 go_simp
 refine (len_any (HD0.out)).mono ?_
 rintro e w9 ⟨rfl, rfl⟩
 skip
 go_wp2_with fail
 refine hK.out _ _ (⟨zl, zp, zn, zd⟩) (fun hHeld11 => ?_)
 clear hK K
 try simp only [Act.put, sIa, sI0, sI1]
 refine tk 19 (h := ?_)
 refine tk 20 (h := ?_)
 refine wpAnyH_done (by kernel_rfl) ?_ _
 go_wp2_with fail
 go_ret
 exact ⟨rfl, (K4.out.drew)⟩
theorem pformat_ok (hF : ∀ k, w.heap.size <= k -> F k) (hFT : ¬ F 1) (hD : Dsk F w b d) (ht : Tbl w) (L n : Nat) (note : List UInt8) (l1 : 96 <= L) (l2 : L <= 512) (p1 : 64 <= n) (p2 : n <= 1024) (hn : note.length <= 40) (hlen : 2 + L + n <= d.on.length) (hw : d.wait.length + 4000 < 1073741824) :
  Calls Tryz.prog 14 #[.pointer (some ⟨b, 0, none⟩), .int .i64 L, .int .i64 n, .string ⟨note.toArray⟩] w fun e w' => e = .returned (.int .i64 (d.formP L n note).2) /\ Dsk F w' b (d.formP L n note).1 /\ Kp F w w' := by
 have DD := hHd hD
 have HF := hHd hF
 have HFT := hHd hFT
 have HT := hHd ht
 obtain ⟨W4, hW4, bd, bl, bp, bn, hk4⟩ : ∃ W4, W4 = (((w.alloc (.cells #[.pointer (some ⟨b, 0, none⟩)] 35)).alloc (.cells #[.int .i64 L] 3)).alloc (.cells #[.int .i64 n] 3)).alloc (.cells #[.string ⟨note.toArray⟩] 9) /\ Box W4 w.heap.size 35 #[.pointer (some ⟨b, 0, none⟩)] /\ Box W4 (w.heap.size + 1) 3 #[.int .i64 L] /\ Box W4 (w.heap.size + 1 + 1) 3 #[.int .i64 n] /\ Box W4 (w.heap.size + 1 + 1 + 1) 9 #[.string ⟨note.toArray⟩] /\ Kp (fun _ => False) w W4 := by
  refine ⟨_, rfl, ?_, ?_, ?_, ?_, ((((Kp.refl _ w).alloc _).alloc _).alloc _).alloc _⟩
  ·exact (((Box.new w _ _).alloc _).alloc _).alloc _
  ·have := Box.new (w.alloc (.cells #[.pointer (some ⟨b, 0, none⟩)] 35)) 3 #[.int .i64 L]
   rw [World.size_alloc] at this
   exact (this.alloc _).alloc _
  ·have := Box.new ((w.alloc (.cells #[.pointer (some ⟨b, 0, none⟩)] 35)).alloc (.cells #[.int .i64 L] 3)) 3 #[.int .i64 n]
   rw [World.size_alloc, World.size_alloc] at this
   exact this.alloc _
  ·have := Box.new (((w.alloc (.cells #[.pointer (some ⟨b, 0, none⟩)] 35)).alloc (.cells #[.int .i64 L] 3)).alloc (.cells #[.int .i64 n] 3)) 9 #[.string ⟨note.toArray⟩]
   rwa [World.size_alloc, World.size_alloc, World.size_alloc] at this
 obtain ⟨gd, hgd⟩ : ∃ gd, w.heap.size = gd := ⟨_, rfl⟩
 obtain ⟨gl, hgl⟩ : ∃ gl, gd + 1 = gl := ⟨_, rfl⟩
 obtain ⟨gp, hgp⟩ : ∃ gp, gl + 1 = gp := ⟨_, rfl⟩
 obtain ⟨gn, hgn⟩ : ∃ gn, gp + 1 = gn := ⟨_, rfl⟩
 rw [hgd, hgl] at bl
 rw [hgd, hgl, hgp] at bp
 rw [hgd, hgl, hgp, hgn] at bn
 rw [hgd] at bd
 have HW4 := hHd hW4
 have HGD := hHd hgd
 have HGL := hHd hgl
 have HGP := hHd hgp
 have HGN := hHd hgn
 have BD := hHd bd
 have BL := hHd bl
 have BP := hHd bp
 have BN := hHd bn
 have K4 := hHd hk4
 have HD0 := hHd ((DD.out.still hk4).still (Kp.refl (fun _ => False) W4).drew)
 have zd : W4.drew.cell? ⟨gd, 0, none⟩ = some (.pointer (some ⟨b, 0, none⟩)) := bd.cell 0
 have zl : W4.drew.cell? ⟨gl, 0, none⟩ = some (.int .i64 L) := bl.cell 0
 have zp : W4.drew.cell? ⟨gp, 0, none⟩ = some (.int .i64 n) := bp.cell 0
 have zn : W4.drew.cell? ⟨gn, 0, none⟩ = some (.string ⟨note.toArray⟩) := bn.cell 0
 have yd : W4.cell? ⟨gd, 0, none⟩ = some (.pointer (some ⟨b, 0, none⟩)) := bd.cell 0
 clear bd bl bp bn hk4 hW4 hgd hgl hgp hgn
 have h1 : plogB L = true := by simp [plogB]; omega
 have h2 : ppgsB n = true := by simp [ppgsB]; omega
 have h3 : decide (note.length <= 40) = true := by simpa using hn
 have HSEC := hHd (fun (v : World) => psector_any L n (by omega) (by omega) v)
 have h4 : decide (d.on.length < 2 + L + n) = false := by simp; omega
 have h4' : decide ((d.on.length : Int) < ((2 + L + n : Nat) : Int)) = false := by simp; omega
 have HORD := hHd (fun (V : World) (gs : Nat) (hFV : ∀ k, V.heap.size <= k -> F k) (dk : Dsk F V b d) (tb : Tbl V) (x : Fx V b gp gd gl gn gs n L note) => form_order hFV hFT dk tb x (by omega) p2 (by omega) (by omega) hw 3)
 generalize 2 + L + n = q at HSEC h4 h4'
 clear hD hF hFT ht l1 l2 p1 p2 hlen hn hw
 go_enter Tryz.func14, Tryz.ntmps14
 go_upto_region 1 with fail
 rw [HGD.out, HGL.out, HGP.out, HGN.out, <- HW4.out]
 go_upto_region 3 with fail
 refine wp_region_held_drew (S := fun v => v.cell? ⟨gl, 0, none⟩ = some (.int .i64 L) /\ v.cell? ⟨gp, 0, none⟩ = some (.int .i64 n) /\ v.cell? ⟨gn, 0, none⟩ = some (.string ⟨note.toArray⟩) /\ v.cell? ⟨gd, 0, none⟩ = some (.pointer (some ⟨b, 0, none⟩))) (by kernel_rfl) (⟨zl, zp, zn, zd⟩) (fun hHeld => ?_)
 refine tk 0 (h := ?_)
 refine rd 1 (h := fun K hK => ?_)
 go_simp
 refine (plog_any L _).mono ?_
 rintro e w9 ⟨rfl, rfl⟩
 rw [h1]
 go_wp2_with fail
 refine hK.out _ _ (⟨zl, zp, zn, zd⟩) (fun hHeld12 => ?_)
 clear hK K
 try simp only [Act.put, sIa, sI0, sI1]
 refine tk 2 (h := ?_)
 refine tk 3 (h := ?_)
 refine tk 4 (h := ?_)
 refine rd 5 (h := fun K hK => ?_)
 go_simp
 refine (ppgs_any n _).mono ?_
 rintro e w9 ⟨rfl, rfl⟩
 rw [h2]
 go_wp2_with fail
 refine hK.out _ _ (⟨zl, zp, zn, zd⟩) (fun hHeld13 => ?_)
 clear hK K
 try simp only [Act.put, sIa, sI0, sI1]
 refine tk 6 (h := ?_)
 refine tk 7 (h := ?_)
 refine tk 8 (h := ?_)
 refine tk 9 (h := ?_)
 refine rd 10 (h := fun K hK => ?_)
 go_simp
 refine (pnote_any note _).mono ?_
 rintro e w9 ⟨rfl, rfl⟩
 rw [h3]
 go_wp2_with fail
 refine hK.out _ _ (⟨zl, zp, zn, zd⟩) (fun hHeld14 => ?_)
 clear hK K
 try simp only [Act.put, sIa, sI0, sI1]
 refine tk 11 (h := ?_)
 refine tk 12 (h := ?_)
 refine tk 13 (h := ?_)
 refine tk 14 (h := ?_)
 refine tk 15 (h := ?_)
 refine tk 17 (h := ?_)
 refine rd 16 (h := fun K hK => ?_)
 go_simp
 refine (HSEC.out _).mono ?_
 rintro e w9 ⟨rfl, rfl⟩
 skip
 go_wp2_with fail
 refine hK.out _ _ (⟨zl, zp, zn, zd⟩) (fun hHeld15 => ?_)
 clear hK K
 try simp only [Act.put, sIa, sI0, sI1]
 refine rd 18 (h := fun K hK => ?_)
 go_simp
 refine (len_any (HD0.out)).mono ?_
 rintro e w9 ⟨rfl, rfl⟩
 skip
 go_wp2_with fail
 refine hK.out _ _ (⟨zl, zp, zn, zd⟩) (fun hHeld16 => ?_)
 clear hK K
 try simp only [Act.put, sIa, sI0, sI1]
 refine tk 19 (h := ?_)
 refine tk 20 (h := ?_)
 refine wpAnyH_done (by kernel_rfl) ?_ _
 clear hHeld
 go_wp2_with fail
 have k5 : Kp (fun _ => False) W4 (W4.drew.alloc (.cells #[Stp.v ⟨54, #[], #[.pointer (some ⟨gp, 0, none⟩), .pointer (some ⟨gd, 0, none⟩), .pointer (some ⟨gl, 0, none⟩)]⟩, Stp.v ⟨47, #[.pointer (some ⟨b, 0, none⟩)], #[]⟩, Stp.v ⟨57, #[], #[.pointer (some ⟨gd, 0, none⟩), .pointer (some ⟨gl, 0, none⟩), .pointer (some ⟨gp, 0, none⟩), .pointer (some ⟨gn, 0, none⟩)]⟩] 104)) := ((Kp.refl _ W4).drew).alloc _
 have hx : Fx (W4.drew.alloc (.cells #[Stp.v ⟨54, #[], #[.pointer (some ⟨gp, 0, none⟩), .pointer (some ⟨gd, 0, none⟩), .pointer (some ⟨gl, 0, none⟩)]⟩, Stp.v ⟨47, #[.pointer (some ⟨b, 0, none⟩)], #[]⟩, Stp.v ⟨57, #[], #[.pointer (some ⟨gd, 0, none⟩), .pointer (some ⟨gl, 0, none⟩), .pointer (some ⟨gp, 0, none⟩), .pointer (some ⟨gn, 0, none⟩)]⟩] 104)) b gp gd gl gn W4.heap.size n L note :=
  ⟨BP.out.kp k5 (fun e => e), BD.out.kp k5 (fun e => e), BL.out.kp k5 (fun e => e), BN.out.kp k5 (fun e => e), Box.new W4.drew _ _⟩
 have K5 := hHd (K4.out.trans k5)
 have hcall := HORD.out _ W4.heap.size (fun k hk => HF.out k (Nat.le_trans K5.out.size hk)) (DD.out.still K5.out) (HT.out.kp K5.out (fun e => e)) hx
 refine hcall.mono ?_
 clear hcall hx k5
 rintro e W6 ⟨rfl, hd6, hk6⟩
 have D6 := hHd hd6
 have K6 := hHd ((K5.out.of_false (S := F)).trans (hk6.mono fun k _ e => e.1))
 clear hd6 hk6
 go_wp2_with fail
 go_ret
 exact ⟨rfl, D6.out, K6.out⟩
end
theorem seventeen {l : List Value} (h : l.length = 17) : ∃ a0 a1 a2 a3 a4 a5 a6 a7 a8 a9 b0 b1 b2 b3 b4 b5 b6, l = [a0, a1, a2, a3, a4, a5, a6, a7, a8, a9, b0, b1, b2, b3, b4, b5, b6] := by
 rcases l with _ | ⟨a0, _ | ⟨a1, _ | ⟨a2, _ | ⟨a3, _ | ⟨a4, _ | ⟨a5, _ | ⟨a6, _ | ⟨a7, _ | ⟨a8, _ | ⟨a9, _ | ⟨b0, _ | ⟨b1, _ | ⟨b2, _ | ⟨b3, _ | ⟨b4, _ | ⟨b5, _ | ⟨b6, _ | ⟨b7, l⟩⟩⟩⟩⟩⟩⟩⟩⟩⟩⟩⟩⟩⟩⟩⟩⟩⟩ <;> simp at h
 exact ⟨_, _, _, _, _, _, _, _, _, _, _, _, _, _, _, _, _, rfl⟩
def Stb (W : World) (gs gl b : Nat) (note : List UInt8) (um : List Value) (vl vc : Value) (cm : List Value) (dead : Bool) : Prop :=
 um.length = 17 /\ cm.length = 17 /\ Box W gs 86 (stc gl b note um vl vc cm dead).toArray
section
variable {W W' : World} {gs gl b : Nat} {note : List UInt8} {um cm um' cm' : List Value} {vl vc : Value} {dead : Bool}
theorem Stb.kp {S : Nat -> Prop} (h : Stb W gs gl b note um vl vc cm dead) (hk : Kp S W W') (hn : ¬ S gs) : Stb W' gs gl b note um vl vc cm dead := ⟨h.1, h.2.1, h.2.2.kp hk hn⟩
theorem Stb.still (h : Stb W gs gl b note um vl vc cm dead) (hk : Kp (fun _ => False) W W') : Stb W' gs gl b note um vl vc cm dead := h.kp hk fun e => e
theorem Stb.dt {F : Nat -> Prop} (h : Stb W gs gl b note um vl vc cm dead) (hk : Kp (fun k => F k /\ DT W k) W W') : Stb W' gs gl b note um vl vc cm dead := h.kp hk fun e => not_DT h.2.2 ⟨by decide, by decide, by decide⟩ e.2
theorem Stb.cells (h : Stb W gs gl b note um vl vc cm dead) : W.cell? ⟨gs, 0, none⟩ = some (.pointer (some ⟨gl, 0, none⟩)) /\ W.cell? ⟨gs, 1, none⟩ = some (.pointer (some ⟨b, 0, none⟩)) /\ W.cell? ⟨gs, 2, none⟩ = some (.string ⟨note.toArray⟩) /\
  W.cell? ⟨gs, 20, none⟩ = some vl /\ W.cell? ⟨gs, 21, none⟩ = some vc /\ W.cell? ⟨gs, 39, none⟩ = some (.bool dead) := by
 obtain ⟨h1, h2, hb⟩ := h
 obtain ⟨_, _, _, _, _, _, _, _, _, _, _, _, _, _, _, _, _, rfl⟩ := seventeen h1
 obtain ⟨_, _, _, _, _, _, _, _, _, _, _, _, _, _, _, _, _, rfl⟩ := seventeen h2
 exact ⟨hb.cell 0, hb.cell 1, hb.cell 2, hb.cell 20, hb.cell 21, hb.cell 39⟩
theorem Stb.free (h : Stb W gs gl b note um vl vc cm dead) (i : Nat) : W.frozen? ⟨gs, i, none⟩ = false := h.2.2.free i
theorem Stb.setNote (h : Stb W gs gl b note um vl vc cm dead) (n' : List UInt8) : Stb (W.setCell ⟨gs, 2, none⟩ (.string ⟨n'.toArray⟩)) gs gl b n' um vl vc cm dead := by
 obtain ⟨h1, h2, hb⟩ := h
 refine ⟨h1, h2, ?_⟩
 have := hb.put 2 (.string ⟨n'.toArray⟩)
 have e : (stc gl b note um vl vc cm dead).toArray.setIfInBounds 2 (.string ⟨n'.toArray⟩) = (stc gl b n' um vl vc cm dead).toArray := by
  simp [stc, sth, List.setIfInBounds_toArray]
 rwa [e] at this
theorem Stb.setLate (h : Stb W gs gl b note um vl vc cm dead) (v : Value) : Stb (W.setCell ⟨gs, 20, none⟩ v) gs gl b note um v vc cm dead := by
 obtain ⟨h1, h2, hb⟩ := h
 obtain ⟨_, _, _, _, _, _, _, _, _, _, _, _, _, _, _, _, _, rfl⟩ := seventeen h1
 exact ⟨h1, h2, hb.put 20 v⟩
theorem Stb.setDead (h : Stb W gs gl b note um vl vc cm dead) (x : Bool) : Stb (W.setCell ⟨gs, 39, none⟩ (.bool x)) gs gl b note um vl vc cm x := by
 obtain ⟨h1, h2, hb⟩ := h
 obtain ⟨_, _, _, _, _, _, _, _, _, _, _, _, _, _, _, _, _, rfl⟩ := seventeen h1
 obtain ⟨_, _, _, _, _, _, _, _, _, _, _, _, _, _, _, _, _, rfl⟩ := seventeen h2
 exact ⟨h1, h2, hb.put 39 (.bool x)⟩
theorem stc_um : stc gl b note um vl vc cm dead = sth gl b note ++ um ++ ([vl, vc] ++ cm ++ [.bool dead]) := by simp [stc]
theorem stc_cm : stc gl b note um vl vc cm dead = (sth gl b note ++ um ++ [vl, vc]) ++ cm ++ [.bool dead] := rfl
theorem stc_ch : stc gl b note um vl vc cm dead = (sth gl b note ++ um ++ [vl]) ++ (vc :: cm) ++ [.bool dead] := by simp [stc]
theorem Stb.rum (h : Stb W gs gl b note um vl vc cm dead) : W.rangeAt gs 3 um := by
 have hb := h.2.2
 rw [stc_um] at hb
 exact box_range (sth gl b note) _ _ hb
theorem Stb.newUm (h : Stb W gs gl b note um vl vc cm dead) (hu : um'.length = 17) (hb : Box W' gs 86 (sth gl b note ++ um' ++ ([vl, vc] ++ cm ++ [Value.bool dead])).toArray) : Stb W' gs gl b note um' vl vc cm dead := ⟨hu, h.2.1, by rw [stc_um]; exact hb⟩
theorem Stb.newCm (h : Stb W gs gl b note um vl vc cm dead) (hc : cm'.length = 17) (hb : Box W' gs 86 ((sth gl b note ++ um ++ [vl, vc]) ++ cm' ++ [Value.bool dead]).toArray) : Stb W' gs gl b note um vl vc cm' dead := ⟨h.1, hc, hb⟩
theorem Stb.newCh {vc' : Value} (h : Stb W gs gl b note um vl vc cm dead) (hc : cm'.length = 17) (hb : Box W' gs 86 ((sth gl b note ++ um ++ [vl]) ++ (vc' :: cm') ++ [Value.bool dead]).toArray) : Stb W' gs gl b note um vl vc' cm' dead := ⟨h.1, hc, by rw [stc_ch]; exact hb⟩
end
end Go.Proofs.YtepaeliamhjgiaaGreatDoor
