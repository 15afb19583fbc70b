/- The law of pages, part 30 of 55: PgBlank PgFormat PgForm. -/
import Derived.Test.YtepaeliamhjgiaaGreatDoorMu1
import Derived.Test.YtepaeliamhjgiaaGreatDoorMu29
import Derived.Test.YtepaeliamhjgiaaGreatDoorMu19
import Derived.Test.YtepaeliamhjgiaaGreatDoorMu5
import Derived.Test.YtepaeliamhjgiaaGreatDoorMu23
set_option maxHeartbeats 16000000
set_option maxRecDepth 100000
namespace Go.Proofs.YtepaeliamhjgiaaGreatDoor
open Go.RowKit Go.Maps
def hnote (n : Nat) (note : List UInt8) : List UInt8 := beN 2 n ++ note
theorem headNote_any (n : Nat) (hn : n <= 1024) (note : List UInt8) (hl : note.length <= 1000) (w : World) :
  Calls Tryz.prog 59 #[.int .i64 n, .string ⟨note.toArray⟩] w fun e w' => e = .returned (.string ⟨(hnote n note).toArray⟩) /\ Kp (fun _ => False) w w' := by
 have hw64 : IntKind.u64.wrap (n : Int) = (n : Int) := IntWalk.u64_in _ (by omega)
 have HN := hHd hn
 have HL := hHd hl
 clear hn hl
 go_enter Tryz.func59, Tryz.ntmps59
 go_wp2_with fail
 refine (new_any (fun k => w.heap.size <= k) w (Nat.le_refl _)).mono ?_
 rintro e w1 ⟨rfl, hpk, hk1⟩
 have P1 := hHd (show Pk (fun k => w.heap.size <= k) w1 (.pointer (some ⟨w.heap.size, 0, none⟩)) [] 0 from ⟨fun _ => rfl, .inr ⟨_, rfl, hpk⟩⟩)
 have K1 := hHd hk1
 clear hpk hk1
 go_wp2_with fail
 refine (put_fine2 P1.out (fun k hk => Nat.le_trans K1.out.size hk) n (by have := HN.out; omega) (by simp)).mono ?_
 rintro e w2 ⟨rfl, hp, hk⟩
 have P2 := hHd hp
 have K2 := hHd ((K1.out.of_false (S := fun k => w.heap.size <= k)).trans hk)
 clear hp hk
 go_wp2_with fail
 refine (text_any P2.out (fun k hk => Nat.le_trans K2.out.size hk) ⟨note.toArray⟩ (by
  have h1 : (⟨note.toArray⟩ : ByteArray).size = note.length := by show note.toArray.size = _; simp
  have h2 := putS_le [] 0 (beN 2 n)
  rw [beN_length] at h2
  have := HL.out
  simp only [List.length_nil] at h2
  omega)).mono ?_
 rintro e w3 ⟨rfl, hp, hk⟩
 have P3 := hHd (show Pk (fun k => w.heap.size <= k) w3 (.pointer (some ⟨w.heap.size, 0, none⟩)) (hnote n note) 0 from hp)
 have K3 := hHd (K2.out.trans hk)
 clear hp hk
 go_wp2_with fail
 refine (bytes_any P3.out (by have := HL.out; simp only [hnote, List.length_append, beN_length]; omega)).mono ?_
 rintro e w4 ⟨A5, c5, rfl, _, _, hrd, _, hk5⟩
 have ht := hrd.text (P := Tryz.prog) 50 9 5 c5 Tryz.underlying50 Tryz.underlying5 Tryz.underlying9
 have K4 := hHd (K3.out.trans hk5.of_false)
 clear hrd hk5
 go_wp2_with fail
 go_ret
 exact ⟨rfl, ⟨K4.out.os, K4.out.tape, K4.out.output, K4.out.size, fun k hk _ => K4.out.block k hk (by omega)⟩⟩
def usedO : Nat -> Bool := fun i => decide (i = 0)
def blankB (n : Nat) : Bm := fun i => if i < n then some (if i = 0 then Bt.pageL usedO else zsec) else none
def zeroB (k : Nat) : Bm := fun i => if i < k then some zsec else none
theorem zeroB_zero : zeroB 0 = bnone := by funext i; simp [zeroB, bnone]
theorem zeroB_put (k : Nat) : (zeroB k).put k zsec = zeroB (k + 1) := by
 funext i
 unfold Bm.put zeroB
 by_cases h : i = k
 ·rw [if_pos h, if_pos (by omega)]
 ·rw [if_neg h]
  by_cases h2 : i < k
  ·rw [if_pos h2, if_pos (by omega)]
  ·rw [if_neg h2, if_neg (by omega)]
theorem blankB_put (n : Nat) (hn : 0 < n) : (zeroB n).put 0 (Bt.pageL usedO) = blankB n := by
 funext i
 unfold Bm.put zeroB blankB
 by_cases h : i = 0
 ·subst h; rw [if_pos rfl, if_pos hn, if_pos rfl]
 ·rw [if_neg h, if_neg h]
theorem usedO_eq (n : Nat) (hn : 0 < n) : Bt.setF Bt.nof n 0 true = usedO := by
 funext i
 unfold Bt.setF
 rw [Bt.pgB_true (Int.le_refl 0) (by omega), if_pos rfl]
 unfold Bt.upd Bt.nof usedO
 by_cases h : i = 0
 ·subst h; simp
 ·simp [h]
theorem usedO_wf (n : Nat) (hn : 0 < n) (h1 : n <= 1024) : Bt.Wf usedO n := ⟨h1, fun i hi => by simp [usedO]; omega⟩
theorem blank_any (n : Nat) (h0 : 0 < n) (hn : n <= 1024) (w : World) :
  Calls Tryz.prog 55 #[.int .i64 n] w fun e w' => ∃ g, e = .returned (.map (some g)) /\ w.heap.size <= g /\ Pgm w' g n (blankB n) /\ Kp (fun _ => False) w w' := by
 obtain ⟨w0, hw0, hp0, hk0⟩ : ∃ w0, w0 = w.alloc (.map #[] 0) /\ Pgm w0 w.heap.size n bnone /\ Kp (fun _ => False) w w0 := ⟨_, rfl, Pgm.made w hn, (Kp.refl _ w).alloc _⟩
 have HW0 := hHd hw0
 have M0 := hHd hp0
 have K0 := hHd hk0
 have HN := hHd hn
 have H0 := hHd h0
 have hni : (n : Int) <= 1024 := by omega
 clear hw0 hp0 hk0 hn h0
 have hmm := @run_makeMap Tryz.prog
 have hbz : (Instr.build 107 #[]).run Tryz.prog = fun w => .ok (.agg (bcs zsec).toArray) w := by rw [bcs_zsec]; kernel_rfl
 go_enter Tryz.func55, Tryz.ntmps55
 go_upto_region 2 with fail
 rw [<- HW0.out]
 clear hmm
 go_wp2_with fail
 go_loopw [9] (fun s9 wr => ∃ k : Nat, k <= n /\ s9 = .int .i64 k /\ Pgm wr w.heap.size n (zeroB k) /\ Kp (fun q => w.heap.size <= q) w wr) (fun s9 _ => n - (Go.RowKit.intOf s9).toNat)
 case atStart => exact ⟨0, Nat.zero_le _, rfl, by rw [zeroB_zero]; exact M0.out, K0.out.of_false⟩
 case round =>
  obtain ⟨k, hk, rfl, hp, hkp⟩ := hrel
  have MW := hHd hp
  have KW := hHd hkp
  clear hp hkp
  by_cases hlt : k < n
  ·have HLT := hHd hlt
   go_wp2_with (first | (refine wpList_putPg rfl (.tmp 12) (.tmp 13) (.tmp 14) rfl rfl MW.out k HLT.out zsec zsec_length rfl rfl ?_; intro w9 hm9 hk9) | fail)
   have K9 := KW.out.trans (hk9.mono (S' := fun q => w.heap.size <= q) fun q _ e => by rw [show q = w.heap.size from e]; exact Nat.le_refl _)
   rw [zeroB_put] at hm9
   exact ⟨⟨k + 1, by omega, by go_num, hm9, K9⟩, by simp [Go.RowKit.intOf]; omega⟩
  ·obtain rfl : k = n := by omega
   clear hk hlt
   go_wp2_with fail
   refine (Bt.new_any k _).mono ?_
   rw [if_pos (by have := HN.out; have := H0.out; omega), if_pos (by have := HN.out; have := H0.out; omega), Int.toNat_natCast]
   rintro e w1 ⟨rfl, hk1⟩
   have M1 := hHd (MW.out.still hk1)
   have K1 := hHd (KW.out.trans hk1.of_false)
   clear hk1
   obtain ⟨gx, hgx⟩ : ∃ gx, w1.heap.size = gx := ⟨_, rfl⟩
   have HGX := hHd hgx
   clear hgx
   go_upto_region 8 with (first | (refine wpList_store_box rfl 82 (.tmp 5) (.tmp 19) rfl w1.heap.size (Bt.mcs Bt.nof k) rfl rfl (Box.new w1 82 (Bt.zcs 0).toArray) (by rw [Bt.mcs_length]; rfl) (Bt.infoMcs _ _) (Bt.mcs_one _ _) ?_; intro w2 hb2 hk2) | fail)
   have k2 : Kp (fun _ => False) w1 w2 := ((Kp.refl (fun _ => False) w1).alloc (.cells (Bt.zcs 0).toArray 82)).trans_new hk2 (fun q e => .inl (by omega))
   rw [HGX.out] at hb2 ⊢
   have M2 := hHd (M1.out.still k2)
   have K2 := hHd (K1.out.trans k2.of_false)
   have B2 := hHd hb2
   clear hb2 hk2 k2
   go_wp2_with (first | (refine wpList_load_mid rfl 82 (.tmp 5) rfl gx 0 rfl (Bt.mcs Bt.nof k) _ (Bt.Mp.range B2.out) Tryz.underlying82 rfl (Bt.infoMcs _ _) ?_) | fail)
   refine (Bt.set_any Bt.nof k 0 true _ HN.out).mono ?_
   rw [usedO_eq k H0.out]
   rintro e w3 ⟨rfl, hk3⟩
   have M3 := hHd (M2.out.still hk3)
   have K3 := hHd (K2.out.trans hk3.of_false)
   clear hk3
   go_wp2_with fail
   refine (Bt.bytes_any usedO k _ (usedO_wf k H0.out HN.out)).mono ?_
   rintro e w4 ⟨gb, rfl, hnb, hk4⟩
   have M4 := hHd (M3.out.still hk4)
   have K4 := hHd (K3.out.trans hk4.of_false)
   have hat : ∀ W, (Instr.arrayAt 107 (.slice (some ⟨gb, 0, none⟩) 512 512)).run Tryz.prog W = .ok (.pointer (some ⟨gb, 0, none⟩)) W := fun W => run_arrayAt W 107 _ 512 _ 512 512 Tryz.underlying107 (Nat.le_refl _)
   have HB4 := hHd (Box.range' (L := bcs (Bt.pageL usedO)) hnb.2)
   clear hk4 hnb
   go_upto_region 9 with (first | (refine wpList_load_mid rfl 107 (.tmp 25) rfl gb 0 rfl (bcs (Bt.pageL usedO)) _ HB4.out Tryz.underlying107 rfl (by rw [bcs_length, Bt.pageL_length]; exact infoPg) ?_) | (refine wpList_putPg rfl (.tmp 21) (.const (.int .i64 0)) (.tmp 26) rfl rfl M4.out 0 H0.out (Bt.pageL usedO) (Bt.pageL_length _) rfl rfl ?_; intro w9 hm9 hk9) | fail)
   rw [blankB_put k H0.out] at hm9
   have M9 := hHd hm9
   have K9 := hHd (K4.out.trans (hk9.mono (S' := fun q => w.heap.size <= q) fun q _ e => by rw [show q = w.heap.size from e]; exact Nat.le_refl _))
   clear hm9 hk9 hat
   go_wp2_with fail
   go_ret
   exact ⟨w.heap.size, rfl, Nat.le_refl _, M9.out, ⟨K9.out.os, K9.out.tape, K9.out.output, K9.out.size, fun q hq _ => K9.out.block q hq (by omega)⟩⟩
end Go.Proofs.YtepaeliamhjgiaaGreatDoor
namespace Go.Proofs.YtepaeliamhjgiaaGreatDoor
open Go.RowKit Go.Maps Go.Shelf
def plogB (n : Int) : Bool := decide (96 <= n) && decide (n <= 512)
theorem plog_any (n : Int) (w : World) :
  Calls Tryz.prog 49 #[.int .i64 n] w fun e w' => e = .returned (.bool (plogB n)) /\ w = w' := by
 unfold plogB
 by_cases h1 : 96 <= n
 ·have e1 : decide (96 <= n) = true := by simpa using h1
  rw [e1, Bool.true_and]
  go_enter Tryz.func49, Tryz.ntmps49
  go_wp2_with fail
  go_ret
  exact ⟨rfl, rfl⟩
 ·have e1 : decide (96 <= n) = false := by simpa using h1
  rw [e1, Bool.false_and]
  go_enter Tryz.func49, Tryz.ntmps49
  go_wp2_with fail
  go_ret
  exact ⟨rfl, rfl⟩
def ppgsB (n : Int) : Bool := decide (64 <= n) && decide (n <= 1024)
theorem ppgs_any (n : Int) (w : World) :
  Calls Tryz.prog 50 #[.int .i64 n] w fun e w' => e = .returned (.bool (ppgsB n)) /\ w = w' := by
 unfold ppgsB
 by_cases h1 : 64 <= n
 ·have e1 : decide (64 <= n) = true := by simpa using h1
  rw [e1, Bool.true_and]
  go_enter Tryz.func50, Tryz.ntmps50
  go_wp2_with fail
  go_ret
  exact ⟨rfl, rfl⟩
 ·have e1 : decide (64 <= n) = false := by simpa using h1
  rw [e1, Bool.false_and]
  go_enter Tryz.func50, Tryz.ntmps50
  go_wp2_with fail
  go_ret
  exact ⟨rfl, rfl⟩
theorem pnote_any (l : List UInt8) (w : World) :
  Calls Tryz.prog 51 #[.string ⟨l.toArray⟩] w fun e w' => e = .returned (.bool (decide (l.length <= 40))) /\ w = w' := by
 have hs := note_size l
 go_enter Tryz.func51, Tryz.ntmps51
 go_wp2_with fail
 go_ret
 have e : decide ((l.length : Int) <= 40) = decide (l.length <= 40) := by
  by_cases h : l.length <= 40
  ·rw [decide_eq_true h, decide_eq_true (by omega)]
  ·rw [decide_eq_false h, decide_eq_false (by omega)]
 exact ⟨by simp; omega, rfl⟩
theorem Kp.dback {F : Nat -> Prop} {w w1 w2 : World} (hk : Kp (fun _ => False) w w1) (h : Kp (fun k => F k /\ DT w1 k) w1 w2) : Kp (fun k => F k /\ DT w k) w w2 :=
 (hk.of_false (S := fun k => F k /\ DT w k)).dtrans h
section
variable {F : Nat -> Prop} {W : World} {gp gd gl gn b : Nat} {d : Dm} {n L : Nat} {note : List UInt8}
theorem lay_any (hF : ∀ k, W.heap.size <= k -> F k) (hD : Dsk F W b d) (hp : Box W gp 3 #[.int .i64 n]) (hd : Box W gd 35 #[.pointer (some ⟨b, 0, none⟩)]) (hl : Box W gl 3 #[.int .i64 L]) (h0 : 0 < n) (hn : n <= 1024) (hL : L <= 100000) (hw : d.wait.length + 2000 < 1073741824) :
  Calls Tryz.prog 54 #[.pointer (some ⟨gp, 0, none⟩), .pointer (some ⟨gd, 0, none⟩), .pointer (some ⟨gl, 0, none⟩)] W fun e W' => e = .returned (.int .i64 (Dm.putPg (2 + L) (blankB n) ((blankB n).keys n) d).2) /\ Dsk F W' b (Dm.putPg (2 + L) (blankB n) ((blankB n).keys n) d).1 /\ Kp (fun k => F k /\ DT W k) W W' := by
 have HF := hHd hF
 have D0 := hHd hD
 have BP := hHd hp
 have BD := hHd hd
 have BL := hHd hl
 have H0 := hHd h0
 have HN := hHd hn
 have HL := hHd hL
 have HWT := hHd hw
 clear hF hD hp hd hl h0 hn hL hw
 go_enter Tryz.func54, Tryz.ntmps54
 go_upto_region 1 with fail
 refine wp_region_held_drew (S := fun v => v.cell? ⟨gp, 0, none⟩ = some (.int .i64 n) /\ v.cell? ⟨gd, 0, none⟩ = some (.pointer (some ⟨b, 0, none⟩)) /\ v.cell? ⟨gl, 0, none⟩ = some (.int .i64 L)) (by kernel_rfl) (⟨BP.out.cell 0, BD.out.cell 0, BL.out.cell 0⟩) (fun hHeld => ?_)
 refine tk 0 (h := ?_)
 refine tk 2 (h := ?_)
 refine tk 3 (h := ?_)
 refine rd 1 (h := fun K hK => ?_)
 go_simp
 refine (blank_any n H0.out HN.out _).mono ?_
 rintro e w2 ⟨g, rfl, hge, hpm, hk2⟩
 have M2 := hHd hpm
 have K2 := hHd ((Kp.refl (fun _ => False) W).drew.trans hk2)
 have BP2 := hHd (BP.out.kp K2.out (fun e => e))
 have BD2 := hHd (BD.out.kp K2.out (fun e => e))
 have BL2 := hHd (BL.out.kp K2.out (fun e => e))
 have HGE := hHd (show W.heap.size <= g from hge)
 clear hpm hk2 hge
 go_wp2_with fail
 refine hK.out _ _ (⟨BP2.out.cell 0, BD2.out.cell 0, BL2.out.cell 0⟩) (fun hHeld1 => ?_)
 clear hK K
 try simp only [Act.put, sIa, sI0, sI1]
 refine rd 4 (h := fun K hK => ?_)
 go_simp
 obtain ⟨F', hd', hF'⟩ := D0.out.fit
 have D2 := hHd ((hd'.mono (F' := fun k => F k /\ k ≠ g) (fun k e => ⟨(hF' k e).1, by have := (hF' k e).2; have := HGE.out; omega⟩)).still K2.out)
 have HF2 := hHd (newG (G := fun k => F k /\ k ≠ g) (w := w2) (W := w2) (fun k hk => ⟨HF.out k (Nat.le_trans K2.out.size hk), by have := M2.out.lt; omega⟩) (Nat.le_refl _))
 refine (pwrite_any (F := fun k => (F k /\ k ≠ g) /\ DT w2 k) HF2.out M2.out (fun e => e.1.2 rfl) D2.out.bothG L HL.out HWT.out).mono ?_
 rintro e w3 ⟨rfl, hd3, hk3⟩
 have D3 := hHd hd3
 have K3 := hHd hk3
 have NB := hHd (show ∀ (k : Nat) (cs : Array Value) (t : TypeId) (fr : Nat × Nat), w2.heap[k]? = some (.cells cs t fr) -> LT t -> ¬ ((F k /\ k ≠ g) /\ DT w2 k) from fun k cs t fr h ht e => not_DT h ht e.2)
 have BP3 := hHd (BP2.out.kp hk3 (NB.out _ _ _ _ BP2.out ⟨by decide, by decide, by decide⟩))
 have BD3 := hHd (BD2.out.kp hk3 (NB.out _ _ _ _ BD2.out ⟨by decide, by decide, by decide⟩))
 have BL3 := hHd (BL2.out.kp hk3 (NB.out _ _ _ _ BL2.out ⟨by decide, by decide, by decide⟩))
 clear hd' hF' hd3 hk3
 go_wp2_with fail
 refine hK.out _ _ (⟨BP3.out.cell 0, BD3.out.cell 0, BL3.out.cell 0⟩) (fun hHeld2 => ?_)
 clear hK K
 try simp only [Act.put, sIa, sI0, sI1]
 refine tk 5 (h := ?_)
 refine wpAnyH_done (by kernel_rfl) ?_ _
 go_wp2_with fail
 go_ret
 exact ⟨rfl, D3.out.mono (fun k e => e.1.1), Kp.dback K2.out (K3.out.mono fun k _ e => ⟨e.1.1, e.2⟩)⟩
theorem begin_any (hF : ∀ k, W.heap.size <= k -> F k) (hD : Dsk F W b d) (ht : Tbl W) (hp : Box W gp 3 #[.int .i64 n]) (hd : Box W gd 35 #[.pointer (some ⟨b, 0, none⟩)]) (hl : Box W gl 3 #[.int .i64 L]) (hb : Box W gn 9 #[.string ⟨note.toArray⟩]) (hn : n <= 1024) (hnl : note.length <= 1000) (hw : d.wait.length + 1 < 1073741824) :
  Calls Tryz.prog 57 #[.pointer (some ⟨gd, 0, none⟩), .pointer (some ⟨gl, 0, none⟩), .pointer (some ⟨gp, 0, none⟩), .pointer (some ⟨gn, 0, none⟩)] W fun e W' => e = .returned (.int .i64 (d.formatS L (hnote n note)).2) /\ Dsk F W' b (d.formatS L (hnote n note)).1 /\ Kp (fun k => F k /\ DT W k) W W' := by
 have HF := hHd hF
 have D0 := hHd hD
 have HT := hHd ht
 have BP := hHd hp
 have BD := hHd hd
 have BL := hHd hl
 have BN := hHd hb
 have HN := hHd hn
 have HNL := hHd hnl
 have HWT := hHd hw
 clear hF hD ht hp hd hl hb hn hnl hw
 go_enter Tryz.func57, Tryz.ntmps57
 go_upto_region 1 with fail
 refine wp_region_held_drew (S := fun v => v.cell? ⟨gd, 0, none⟩ = some (.pointer (some ⟨b, 0, none⟩)) /\ v.cell? ⟨gl, 0, none⟩ = some (.int .i64 L) /\ v.cell? ⟨gp, 0, none⟩ = some (.int .i64 n) /\ v.cell? ⟨gn, 0, none⟩ = some (.string ⟨note.toArray⟩)) (by kernel_rfl) (⟨BD.out.cell 0, BL.out.cell 0, BP.out.cell 0, BN.out.cell 0⟩) (fun hHeld => ?_)
 refine tk 0 (h := ?_)
 refine tk 1 (h := ?_)
 refine tk 2 (h := ?_)
 refine tk 3 (h := ?_)
 refine rd 4 (h := fun K hK => ?_)
 go_simp
 refine (headNote_any n HN.out note HNL.out _).mono ?_
 rintro e w2 ⟨rfl, hk2⟩
 have K2 := hHd ((Kp.refl (fun _ => False) W).drew.trans hk2)
 have BP2 := hHd (BP.out.kp K2.out (fun e => e))
 have BD2 := hHd (BD.out.kp K2.out (fun e => e))
 have BL2 := hHd (BL.out.kp K2.out (fun e => e))
 have BN2 := hHd (BN.out.kp K2.out (fun e => e))
 have D2 := hHd (D0.out.still K2.out)
 have HT2 := hHd (HT.out.kp K2.out (fun e => e))
 clear hk2
 go_wp2_with fail
 refine hK.out _ _ (⟨BD2.out.cell 0, BL2.out.cell 0, BP2.out.cell 0, BN2.out.cell 0⟩) (fun hHeld3 => ?_)
 clear hK K
 try simp only [Act.put, sIa, sI0, sI1]
 refine rd 5 (h := fun K hK => ?_)
 go_simp
 refine (format_any (F := fun k => F k /\ DT w2 k) (newG HF.out K2.out.size) D2.out.bothG HT2.out L (hnote n note) HWT.out).mono ?_
 rintro e w3 ⟨rfl, hd3, hk3⟩
 have D3 := hHd hd3
 have K3 := hHd hk3
 have BP3 := hHd (BP2.out.kp hk3 (fun e => not_DT BP2.out ⟨by decide, by decide, by decide⟩ e.2))
 have BD3 := hHd (BD2.out.kp hk3 (fun e => not_DT BD2.out ⟨by decide, by decide, by decide⟩ e.2))
 have BL3 := hHd (BL2.out.kp hk3 (fun e => not_DT BL2.out ⟨by decide, by decide, by decide⟩ e.2))
 have BN3 := hHd (BN2.out.kp hk3 (fun e => not_DT BN2.out ⟨by decide, by decide, by decide⟩ e.2))
 clear hd3 hk3
 go_wp2_with fail
 refine hK.out _ _ (⟨BD3.out.cell 0, BL3.out.cell 0, BP3.out.cell 0, BN3.out.cell 0⟩) (fun hHeld4 => ?_)
 clear hK K
 try simp only [Act.put, sIa, sI0, sI1]
 refine tk 6 (h := ?_)
 refine wpAnyH_done (by kernel_rfl) ?_ _
 go_wp2_with fail
 go_ret
 exact ⟨rfl, D3.out.mono (fun k e => e.1), Kp.dback K2.out K3.out⟩
end
def Dm.layP (d : Dm) (L n : Nat) : Dm × Int := Dm.putPg (2 + L) (blankB n) ((blankB n).keys n) d
def Dm.formP (d : Dm) (L n : Nat) (note : List UInt8) : Dm × Int :=
  if (Dm.thenFlush (d.layP L n)).2 = 0 then (Dm.thenFlush (d.layP L n)).1.formatS L (hnote n note) else Dm.thenFlush (d.layP L n)
def formI (d : Dm) (L n : Nat) (note : List UInt8) : Nat → Dm × Int
  | 0 => (d, 0)
  | 1 => d.layP L n
  | 2 => Dm.thenFlush (d.layP L n)
  | _ => d.formP L n note
theorem thenFlush_ok {r : Dm × Int} (h : r.2 = 0) : Dm.thenFlush r = r.1.flushS := by unfold Dm.thenFlush; rw [if_pos h]
theorem thenFlush_no {r : Dm × Int} (h : r.2 ≠ 0) : Dm.thenFlush r = r := by unfold Dm.thenFlush; rw [if_neg h]
theorem blankB_ok (n : Nat) : (blankB n).Ok n := by
  refine ⟨fun i p h => ?_, fun i p h => ?_⟩
  · unfold blankB at h
    split at h
    · next hi => exact hi
    · cases h
  · unfold blankB at h
    split at h
    · injection h with h
      rw [← h]
      split
      · exact Bt.pageL_length _
      · exact zsec_length
    · cases h
theorem putPg_wait (o : Nat) (m : Bm) : ∀ (ks : List Nat) (d : Dm), (Dm.putPg o m ks d).1.wait.length ≤ d.wait.length + ks.length
  | [], d => Nat.le_refl _
  | i :: r, d => by
    have h1 := wait_writeS d ((o + i : Nat) : Int) (m.at_ i)
    rw [putPg_step]
    split
    · have := putPg_wait o m r (d.writeS ((o + i : Nat) : Int) (m.at_ i)).1
      simp only [List.length_cons]
      omega
    · simp only [List.length_cons]
      omega
theorem flushS_wait (d : Dm) : d.flushS.1.wait.length ≤ d.wait.length := by
  unfold Dm.flushS
  split
  · exact Nat.le_refl _
  · split <;> simp [Dm.lose, Dm.all]
theorem thenFlush_wait (r : Dm × Int) : (Dm.thenFlush r).1.wait.length ≤ r.1.wait.length := by
  unfold Dm.thenFlush
  split
  · exact flushS_wait _
  · exact Nat.le_refl _
structure Fx (W : World) (b gp gd gl gn gs n L : Nat) (note : List UInt8) : Prop where
  bp : Box W gp 3 #[.int .i64 n]
  bd : Box W gd 35 #[.pointer (some ⟨b, 0, none⟩)]
  bl : Box W gl 3 #[.int .i64 L]
  bn : Box W gn 9 #[.string ⟨note.toArray⟩]
  st : Box W gs 104 #[Stp.v ⟨54, #[], #[.pointer (some ⟨gp, 0, none⟩), .pointer (some ⟨gd, 0, none⟩), .pointer (some ⟨gl, 0, none⟩)]⟩, Stp.v ⟨47, #[.pointer (some ⟨b, 0, none⟩)], #[]⟩, Stp.v ⟨57, #[], #[.pointer (some ⟨gd, 0, none⟩), .pointer (some ⟨gl, 0, none⟩), .pointer (some ⟨gp, 0, none⟩), .pointer (some ⟨gn, 0, none⟩)]⟩]
section
variable {F : Nat → Prop} {W W' : World} {b gp gd gl gn gs n L : Nat} {note : List UInt8} {d : Dm}
theorem Fx.dt (h : Fx W b gp gd gl gn gs n L note) (hk : Kp (fun k => F k ∧ DT W k) W W') : Fx W' b gp gd gl gn gs n L note :=
  ⟨h.bp.kp hk (fun e => not_DT h.bp ⟨by decide, by decide, by decide⟩ e.2), h.bd.kp hk (fun e => not_DT h.bd ⟨by decide, by decide, by decide⟩ e.2), h.bl.kp hk (fun e => not_DT h.bl ⟨by decide, by decide, by decide⟩ e.2),
   h.bn.kp hk (fun e => not_DT h.bn ⟨by decide, by decide, by decide⟩ e.2), h.st.kp hk (fun e => not_DT h.st ⟨by decide, by decide, by decide⟩ e.2)⟩
theorem form_order (hF : ∀ k, W.heap.size ≤ k → F k) (hFT : ¬ F 1) (hD : Dsk F W b d) (ht : Tbl W) (hx : Fx W b gp gd gl gn gs n L note) (h0 : 0 < n) (hn : n ≤ 1024) (hL : L ≤ 100000) (hnl : note.length ≤ 1000) (hw : d.wait.length + 4000 < 1073741824) (c : Nat) :
    Calls Tryz.prog 42 #[.slice (some ⟨gs, 0, none⟩) 3 c] W fun e W' => e = .returned (.int .i64 (d.formP L n note).2) ∧ Dsk F W' b (d.formP L n note).1 ∧ Kp (fun k => F k ∧ DT W k) W W' := by
  have hwt1 : (d.layP L n).1.wait.length ≤ d.wait.length + 1024 := by
    have h1 := putPg_wait (2 + L) (blankB n) ((blankB n).keys n) d
    have h2 := keys_le (blankB n) n
    show (Dm.putPg _ _ _ _).1.wait.length ≤ _
    omega
  have hord := order_any ([⟨54, #[], #[.pointer (some ⟨gp, 0, none⟩), .pointer (some ⟨gd, 0, none⟩), .pointer (some ⟨gl, 0, none⟩)]⟩, ⟨47, #[.pointer (some ⟨b, 0, none⟩)], #[]⟩, ⟨57, #[], #[.pointer (some ⟨gd, 0, none⟩), .pointer (some ⟨gl, 0, none⟩), .pointer (some ⟨gp, 0, none⟩), .pointer (some ⟨gn, 0, none⟩)]⟩] : List Stp) gs c W
    (fun i V => Fx V b gp gd gl gn gs n L note ∧ (formI d L n note i).2 = 0 ∧ Dsk F V b (formI d L n note i).1 ∧ Tbl V ∧ Kp (fun k => F k ∧ DT W k) W V)
    (fun q V => d.formP L n note = ((d.formP L n note).1, q) ∧ Dsk F V b (d.formP L n note).1 ∧ Kp (fun k => F k ∧ DT W k) W V)
    (fun i V hi j s hj => by
      have hb := hi.1.st
      match j, hj with
      | 0, hj => injection hj with hj; subst hj; exact hb.cell 0
      | 1, hj => injection hj with hj; subst hj; exact hb.cell 1
      | 2, hj => injection hj with hj; subst hj; exact hb.cell 2
      | j + 3, hj => simp at hj)
    ⟨hx, rfl, hD, ht, Kp.refl _ W⟩
    (fun s hs => by
      simp only [List.mem_cons, List.not_mem_nil, or_false] at hs
      rcases hs with rfl | rfl | rfl
      · exact enters_of Tryz.func54 (by kernel_rfl) rfl
      · exact enters_of Tryz.func47 (by kernel_rfl) rfl
      · exact enters_of Tryz.func57 (by kernel_rfl) rfl)
    (show ((3 : Nat) : Int) ≤ 100 by decide)
    (fun i s V hj hi => by
      obtain ⟨x, e0, dk, tb, kp⟩ := hi
      have hFV : ∀ k, V.heap.size ≤ k → F k := fun k hk => hF k (Nat.le_trans kp.size hk)
      match i, hj with
      | 0, hj =>
        injection hj with hj
        subst hj
        refine (lay_any hFV dk x.bp x.bd x.bl h0 hn hL (by show d.wait.length + 2000 < _; omega)).mono ?_
        rintro e V' ⟨rfl, hd, hk⟩
        refine ⟨_, rfl, ?_⟩
        by_cases hz : (d.layP L n).2 = 0
        · exact .inl ⟨hz, x.dt hk, hz, hd, tb.kp hk (fun e => hFT e.1), kp.dtrans hk⟩
        · refine .inr ⟨hz, ?_, ?_, kp.dtrans hk⟩
          · unfold Dm.formP; rw [thenFlush_no hz, if_neg hz]; rfl
          · unfold Dm.formP; rw [thenFlush_no hz, if_neg hz]; exact hd
      | 1, hj =>
        injection hj with hj
        subst hj
        have e0 : (d.layP L n).2 = 0 := e0
        refine (flush_any (F := fun k => F k ∧ DT V k) dk.bothG).mono ?_
        rintro e V' ⟨rfl, hd, hk⟩
        refine ⟨_, rfl, ?_⟩
        have et := thenFlush_ok e0
        by_cases hz : (Dm.thenFlush (d.layP L n)).2 = 0
        · refine .inl ⟨by rw [et] at hz; exact hz, x.dt hk, hz, ?_, tb.kp hk (fun e => hFT e.1), kp.dtrans hk⟩
          show Dsk F V' b (Dm.thenFlush (d.layP L n)).1
          rw [et]
          exact hd.mono fun k e => e.1
        · refine .inr ⟨by rw [et] at hz; exact hz, ?_, ?_, kp.dtrans hk⟩
          · unfold Dm.formP; rw [if_neg hz, et]; rfl
          · unfold Dm.formP; rw [if_neg hz, et]; exact hd.mono fun k e => e.1
      | 2, hj =>
        injection hj with hj
        subst hj
        have e0 : (Dm.thenFlush (d.layP L n)).2 = 0 := e0
        have dk : Dsk F V b (Dm.thenFlush (d.layP L n)).1 := dk
        have hwt2 := thenFlush_wait (d.layP L n)
        refine (begin_any hFV dk tb x.bp x.bd x.bl x.bn hn hnl (by omega)).mono ?_
        rintro e V' ⟨rfl, hd, hk⟩
        refine ⟨_, rfl, ?_⟩
        have ef : d.formP L n note = (Dm.thenFlush (d.layP L n)).1.formatS L (hnote n note) := by unfold Dm.formP; rw [if_pos e0]
        by_cases hz : (d.formP L n note).2 = 0
        · refine .inl ⟨by rw [ef] at hz; exact hz, x.dt hk, hz, ?_, tb.kp hk (fun e => hFT e.1), kp.dtrans hk⟩
          show Dsk F V' b (d.formP L n note).1
          rw [ef]
          exact hd
        · refine .inr ⟨by rw [ef] at hz; exact hz, ?_, ?_, kp.dtrans hk⟩
          · rw [ef]
          · rw [ef]; exact hd
      | i + 3, hj => simp at hj)
  refine hord.mono ?_
  rintro e V (⟨rfl, _, hz, hd, _, hk⟩ | ⟨q, _, rfl, he, hd, hk⟩)
  · have hz : (d.formP L n note).2 = 0 := hz
    exact ⟨by rw [hz], hd, hk⟩
  · have : (d.formP L n note).2 = q := by rw [he]
    exact ⟨by rw [this], hd, hk⟩
end
end Go.Proofs.YtepaeliamhjgiaaGreatDoor
