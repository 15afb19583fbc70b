/- The law of pages, part 21 of 55: WlTrim. -/
import Derived.Test.YtepaeliamhjgiaaGreatDoorMu1
import Derived.Test.YtepaeliamhjgiaaGreatDoorMu5
import Derived.Test.YtepaeliamhjgiaaGreatDoorMu20
set_option maxHeartbeats 16000000
set_option maxRecDepth 100000
namespace Go.Proofs.YtepaeliamhjgiaaGreatDoor
open Go.RowKit Go.Maps
theorem box_there {w : World} {g : Nat} {t : TypeId} {L : List Value} (h : Box w g t L.toArray) (o n : Nat) (hl : o + n <= L.length) : w.there g o n := fun j hj => by
 rw [h.cell, h.free]
 exact ⟨by simp; omega, rfl⟩
theorem trim_eq (l : Lm) (d : Dm) (hd : l.dead = false) : l.trimS d = if (d.putHead (1 - l.a) l.newHead).2 = 0 then ({ l with h := l.newHead, a := 1 - l.a, left := l.h.n }, (d.putHead (1 - l.a) l.newHead).1, 0) else ({ l with dead := (d.putHead (1 - l.a) l.newHead).2 == 4 }, (d.putHead (1 - l.a) l.newHead).1, (d.putHead (1 - l.a) l.newHead).2) := by
 unfold Lm.trimS
 rw [hd, if_neg (by decide)]
section
variable {w : World} {b g : Nat} {d : Dm} {l : Lm} {F : Nat -> Prop}
theorem trim_any (hF : ∀ k, w.heap.size <= k -> F k) (hD : Dsk F w b d) (ht : Tbl w) (hb : Box w g 130 (lcs b l)) (ok : l.ok) (hw : d.wait.length + 1 < 1073741824) :
  Calls Tryz.prog 48 #[.pointer (some ⟨g, 0, none⟩)] w fun e w' => e = .returned (.int .i64 (l.trimS d).2.2) /\ Dsk F w' b (l.trimS d).2.1 /\ Box w' g 130 (lcs b (l.trimS d).1) /\ Kp (fun k => F k \/ k = g) w w' := by
 have HF := hHd hF
 have DD := hHd hD
 have HT := hHd ht
 have BL := hHd hb
 have OK := hHd ok
 have HWT := hHd hw
 clear hF hD ht ok hw
 rcases hdd : l.dead with _ | _
 ·have hr := ready_any g b l w hb
  rw [hdd, if_neg (by decide)] at hr
  have hX := trim_eq l d hdd
  obtain ⟨hn, hhn⟩ : ∃ hn, l.newHead = hn := ⟨_, rfl⟩
  have HNOK := hHd (show hn.ok by rw [<- hhn]; exact newOk l.h.g l.next l.h.n l.h.note OK.out.next_ ⟨OK.out.h_.lo, OK.out.h_.hi⟩ OK.out.h_.note_)
  have HHN := hHd hhn
  rw [hhn] at hX
  obtain ⟨r, hrr⟩ : ∃ r, d.putHead (1 - l.a) hn = r := ⟨_, rfl⟩
  rw [hrr] at hX
  obtain ⟨r1, r2⟩ := r
  have HR := hHd hrr
  have HX := hHd hX
  have HDD := hHd hdd
  clear hdd hb hrr hX hhn
  go_enter Tryz.func48, Tryz.ntmps48
  go_wp2_with fail
  refine hr.mono ?_
  clear hr
  rintro e w1 ⟨rfl, rfl⟩
  go_upto_region 4 with fail
  refine wp_region_held_drew (S := fun v => v.cell? ⟨g, 0, none⟩ = some (.pointer (some ⟨b, 0, none⟩)) /\ v.cell? ⟨g, 1, none⟩ = some (.int .u64 l.h.g) /\ v.cell? ⟨g, 2, none⟩ = some (.int .u64 l.h.f) /\ v.cell? ⟨g, 3, none⟩ = some (.int .i64 l.h.n) /\ v.cell? ⟨g, 4, none⟩ = some (.string ⟨l.h.note.toArray⟩) /\ v.cell? ⟨g, 5, none⟩ = some (.int .i64 l.a) /\ v.cell? ⟨g, 6, none⟩ = some (.int .u64 l.next)) (by kernel_rfl) (⟨BL.out.cell 0, BL.out.cell 1, BL.out.cell 2, BL.out.cell 3, BL.out.cell 4, BL.out.cell 5, BL.out.cell 6⟩) (fun hHeld => ?_)
  refine tk 0 (h := ?_)
  refine tk 1 (h := ?_)
  refine tk 2 (h := ?_)
  refine tk 3 (h := ?_)
  refine tk 4 (h := ?_)
  refine tk 5 (h := ?_)
  refine tk 6 (h := ?_)
  refine tk 7 (h := ?_)
  refine wpAnyH_ready (rs := [8, 9]) (by kernel_rfl) (by simp) ?_
  refine rdc 8 (h := fun K hK => ?_) (hs := rdc 9 (h := fun K hK => ?_) (hs := AllReadyH.nil))
  ·go_simp
   have hfo := follow_any l.h l.a l.next w.drew OK.out.a_
   simp only [hcs] at hfo
   refine hfo.mono ?_
   clear hfo
   rintro e w1 ⟨rfl, hk⟩
   have B1 := hHd (BL.out.drew.kp hk (fun e => e))
   have K1 := hHd ((Kp.refl (fun _ => False) w).drew.trans hk)
   clear hk
   go_wp2_with fail
   refine hK.out _ _ (⟨B1.out.cell 0, B1.out.cell 1, B1.out.cell 2, B1.out.cell 3, B1.out.cell 4, B1.out.cell 5, B1.out.cell 6⟩) (fun hHeld5 => ?_)
   clear hK K
   try simp only [Act.put, sIa, sI0, sI1]
   refine rd 9 (h := fun K hK => ?_)
   go_simp
   have B2 := hHd (B1.out.alloc (.cells #[.int .u64 0, .int .u64 0, .int .i64 0, .string ⟨#[]⟩, .int .i64 0] 122))
   have K2 := hHd (K1.out.alloc (.cells #[.int .u64 0, .int .u64 0, .int .i64 0, .string ⟨#[]⟩, .int .i64 0] 122))
   have Z2 := hHd (Box.new w1 122 #[.int .u64 0, .int .u64 0, .int .i64 0, .string ⟨#[]⟩, .int .i64 0])
   have hg4 := K1.out.size
   have hlg := B1.out.lt
   generalize w1.alloc (.cells #[.int .u64 0, .int .u64 0, .int .i64 0, .string ⟨#[]⟩, .int .i64 0] 122) = w2 at *
   generalize w1.heap.size = g4 at *
   refine hK.out _ _ (⟨B2.out.cell 0, B2.out.cell 1, B2.out.cell 2, B2.out.cell 3, B2.out.cell 4, B2.out.cell 5, B2.out.cell 6⟩) (fun hHeld6 => ?_)
   clear hK K
   try simp only [Act.put, sIa, sI0, sI1]
   refine rd 10 (h := fun K hK => ?_)
   rw [if_pos (by rfl)]
   refine dwp_store_box 122 (.tmp 4) (.tmp 19) rfl g4 [.int .u64 ((l.h.g + 1) % 18446744073709551616 : Nat), .int .u64 l.next, .int .i64 l.h.n, .string ⟨l.h.note.toArray⟩, .int .i64 (1 - l.a : Nat)] rfl rfl Z2.out rfl info_head (hcs_one l.newHead (1 - l.a)) ?_
   intro w4 hb4 hk4
   have H4 := hHd (show Box w4 g4 122 #[.int .u64 hn.g, .int .u64 hn.f, .int .i64 hn.n, .string ⟨hn.note.toArray⟩, .int .i64 (1 - l.a : Nat)] by rw [<- HHN.out]; exact hb4)
   have B4 := hHd (B2.out.kp hk4 (fun e => by omega))
   have K4 := hHd (K2.out.trans_new hk4 (fun b e => .inl (by omega)))
   have D4 := hHd (DD.out.still K4.out)
   have G4 : g4 ≠ g := by omega
   clear hb4 hk4
   refine hK.out _ _ (⟨B4.out.cell 0, B4.out.cell 1, B4.out.cell 2, B4.out.cell 3, B4.out.cell 4, B4.out.cell 5, B4.out.cell 6⟩) (fun hHeld9 => ?_)
   clear hK K
   try simp only [Act.put]
   refine wpAnyH_done (by kernel_rfl) ?_ _
   clear hHeld
   have hgg : g4 ≠ g := G4
   go_upto_region 5 with fail
   refine wp_region_held_drew (S := fun v => v.cell? ⟨g4, 0, none⟩ = some (.int .u64 hn.g) /\ v.cell? ⟨g4, 1, none⟩ = some (.int .u64 hn.f) /\ v.cell? ⟨g4, 2, none⟩ = some (.int .i64 hn.n) /\ v.cell? ⟨g4, 3, none⟩ = some (.string ⟨hn.note.toArray⟩) /\ v.cell? ⟨g4, 4, none⟩ = some (.int .i64 (1 - l.a : Nat)) /\ v.cell? ⟨g, 0, none⟩ = some (.pointer (some ⟨b, 0, none⟩))) (by kernel_rfl) (⟨H4.out.cell 0, H4.out.cell 1, H4.out.cell 2, H4.out.cell 3, H4.out.cell 4, B4.out.cell 0⟩) (fun hHeld => ?_)
   refine tk 0 (h := ?_)
   refine tk 1 (h := ?_)
   refine tk 2 (h := ?_)
   refine tk 3 (h := ?_)
   refine tk 4 (h := ?_)
   refine tk 5 (h := ?_)
   refine rd 6 (h := fun K hK => ?_)
   go_simp
   have hwr := hwrite_any (newG (w := w) HF.out K4.out.drew.size) (D4.out.still (Kp.refl (fun _ => False) w4).drew).bothG (HT.out.kp K4.out.drew (fun e => e)) hn (1 - l.a) HNOK.out HWT.out
   simp only [hcs] at hwr
   rw [HR.out] at hwr
   refine hwr.mono ?_
   clear hwr
   rintro e w5 ⟨rfl, hd, hk⟩
   have D5 := hHd (hd.mono (F' := F) (fun _ e => e.1))
   have K5 := hHd (K4.out.drew.of_false.trans (hk.mono (fun _ _ e => e.1)))
   have H5 := hHd (H4.out.drew.kp hk (fun e => not_DT H4.out.drew ⟨by decide, by decide, by decide⟩ e.2))
   have B5 := hHd (B4.out.drew.kp hk (fun e => not_DT B4.out.drew ⟨by decide, by decide, by decide⟩ e.2))
   clear hd hk
   go_wp2_with fail
   refine hK.out _ _ (⟨H5.out.cell 0, H5.out.cell 1, H5.out.cell 2, H5.out.cell 3, H5.out.cell 4, B5.out.cell 0⟩) (fun hHeld1 => ?_)
   clear hK K
   try simp only [Act.put, sIa, sI0, sI1]
   refine rd 7 (h := fun K hK => ?_)
   go_simp
   refine (hear_any g b l r2 w5 B5.out).mono ?_
   rintro e w6 ⟨rfl, hb, hk⟩
   have B6 := hHd hb
   have H6 := hHd (H5.out.kp hk hgg)
   have D6 := hHd (D5.out.off B5.out ⟨by decide, by decide, by decide⟩ hk)
   have K6 := hHd ((K5.out.mono (S' := fun k => F k \/ k = g) (fun _ _ e => .inl e)).trans (hk.mono (fun _ _ e => .inr e)))
   clear hb hk
   go_wp2_with fail
   refine hK.out _ _ (⟨H6.out.cell 0, H6.out.cell 1, H6.out.cell 2, H6.out.cell 3, H6.out.cell 4, B6.out.cell 0⟩) (fun hHeld2 => ?_)
   clear hK K
   try simp only [Act.put, sIa, sI0, sI1]
   refine tk 8 (h := ?_)
   refine wpAnyH_done (by kernel_rfl) ?_ _
   clear hHeld
   by_cases hz : r2 = 0
   ·subst hz
    have HX2 := hHd (HX.out.trans (if_pos rfl))
    have HB := hHd (show Box w6 g 130 (lcs b l) by
     have := B6.out
     have e : ({ l with dead := l.dead || (0 : Int) == 4 } : Lm) = l := by rw [show ((0 : Int) == 4) = false from rfl, Bool.or_false]
     rwa [e] at this)
    go_upto_region 8 with fail
    have B7 := hHd (show Box w6 g 130 [.pointer (some ⟨b, 0, none⟩), .int .u64 l.h.g, .int .u64 l.h.f, .int .i64 l.h.n, .string ⟨l.h.note.toArray⟩, .int .i64 l.a, .int .u64 l.next, .int .i64 l.left, .bool l.dead].toArray from HB.out)
    have H7 := hHd H6.out
    have K7 := hHd K6.out
    have D7 := hHd D6.out
    generalize w6 = w7 at *
    refine wp_region_held_drew (S := fun v => v.cell? ⟨g4, 0, none⟩ = some (.int .u64 hn.g) /\ v.cell? ⟨g4, 1, none⟩ = some (.int .u64 hn.f) /\ v.cell? ⟨g4, 2, none⟩ = some (.int .i64 hn.n) /\ v.cell? ⟨g4, 3, none⟩ = some (.string ⟨hn.note.toArray⟩) /\ v.cell? ⟨g4, 4, none⟩ = some (.int .i64 (1 - l.a : Nat))) (by kernel_rfl) (⟨H7.out.cell 0, H7.out.cell 1, H7.out.cell 2, H7.out.cell 3, H7.out.cell 4⟩) (fun hHeld => ?_)
    refine tk 0 (h := ?_)
    refine tk 1 (h := ?_)
    refine tk 2 (h := ?_)
    refine tk 3 (h := ?_)
    refine tk 4 (h := ?_)
    refine tk 5 (h := ?_)
    refine tk 6 (h := ?_)
    refine rd 7 (h := fun K hK => ?_)
    rw [if_pos (by rfl)]
    refine wp_store_mid 122 (.tmp 37) (.tmp 33) rfl g 1 #[.int .u64 hn.g, .int .u64 hn.f, .int .i64 hn.n, .string ⟨hn.note.toArray⟩, .int .i64 (1 - l.a : Nat)] rfl rfl (box_there B7.out.drew 1 5 (by simp)) (by kernel_rfl) (all_oneCell_toArray (hcs_one hn (1 - l.a))) ?_
    have B8 := hHd (Box.writes [.int .u64 hn.g, .int .u64 hn.f, .int .i64 hn.n, .string ⟨hn.note.toArray⟩, .int .i64 (1 - l.a : Nat)] 1 w7.drew _ B7.out.drew (by simp))
    have K8 := hHd (Kp.setCells (S := fun k => k = g) [.int .u64 hn.g, .int .u64 hn.f, .int .i64 hn.n, .string ⟨hn.note.toArray⟩, .int .i64 (1 - l.a : Nat)] 1 w7.drew (Kp.refl (fun k => k = g) w7.drew) (.inr rfl))
    have H8 := hHd (H7.out.drew.kp K8.out hgg)
    simp only [List.take_succ_cons, List.take_zero, List.drop_succ_cons, List.drop_zero, List.cons_append, List.nil_append, List.length_cons, List.length_nil, Nat.reduceAdd] at B8
    generalize w7.drew.setCells g 1 _ = w8 at *
    refine hK.out _ _ (⟨H8.out.cell 0, H8.out.cell 1, H8.out.cell 2, H8.out.cell 3, H8.out.cell 4⟩) (fun hHeld3 => ?_)
    clear hK K
    try simp only [Act.put]
    refine tk 8 (h := ?_)
    refine tk 9 (h := ?_)
    refine rd 10 (h := fun K hK => ?_)
    have c7 := B8.out.cell 7
    have f7 := B8.out.free 7
    simp at c7
    go_simp
    have B9 := hHd (B8.out.put 7 (.int .i64 hn.n))
    have K9 := hHd ((Kp.one w8 g 7 (.int .i64 hn.n)))
    have H9 := hHd (H8.out.kp K9.out hgg)
    clear c7 f7
    generalize w8.setCell ⟨g, 7, none⟩ (.int .i64 hn.n) = w9 at *
    refine hK.out _ _ (⟨H9.out.cell 0, H9.out.cell 1, H9.out.cell 2, H9.out.cell 3, H9.out.cell 4⟩) (fun hHeld4 => ?_)
    clear hK K
    try simp only [Act.put, sIa, sI0, sI1]
    refine wpAnyH_done (by kernel_rfl) ?_ _
    go_wp2_with fail
    go_ret
    rw [HX2.out]
    have kg := K8.out.trans K9.out
    refine ⟨rfl, (D7.out.still (Kp.refl (fun _ => False) w7).drew).off B7.out.drew ⟨by decide, by decide, by decide⟩ kg, ?_, K7.out.drew.trans (kg.mono (fun _ _ e => .inr e))⟩
    rw [show l.h.n = hn.n by rw [<- HHN.out]; rfl]
    exact B9.out
   ·have HX2 := hHd (HX.out.trans (if_neg hz))
    have hne : (r2 != 0) = true := by simpa using hz
    have HB := hHd (show Box w6 g 130 (lcs b { l with dead := r2 == 4 }) by
     have := B6.out
     have e : ({ l with dead := l.dead || r2 == 4 } : Lm) = { l with dead := r2 == 4 } := by rw [HDD.out, Bool.false_or]
     rwa [e] at this)
    clear hz
    go_wp2_with fail
    go_ret
    rw [HX2.out]
    exact ⟨rfl, D6.out, HB.out, K6.out⟩
  ·go_simp
   have B1 := hHd (BL.out.alloc (.cells #[.int .u64 0, .int .u64 0, .int .i64 0, .string ⟨#[]⟩, .int .i64 0] 122)).drew
   have K1 := hHd ((Kp.refl (fun _ => False) w).alloc (.cells #[.int .u64 0, .int .u64 0, .int .i64 0, .string ⟨#[]⟩, .int .i64 0] 122)).drew
   have Z1 := hHd (Box.new w 122 #[.int .u64 0, .int .u64 0, .int .i64 0, .string ⟨#[]⟩, .int .i64 0]).drew
   generalize hgx : w.heap.size = g4
   have hg4 : w.heap.size <= g4 := by omega
   have hlg : g < g4 := by rw [<- hgx]; exact BL.out.lt
   rw [hgx] at Z1
   clear hgx
   generalize (w.alloc (.cells #[.int .u64 0, .int .u64 0, .int .i64 0, .string ⟨#[]⟩, .int .i64 0] 122)).drew = w1 at *
   refine hK.out _ _ (⟨B1.out.cell 0, B1.out.cell 1, B1.out.cell 2, B1.out.cell 3, B1.out.cell 4, B1.out.cell 5, B1.out.cell 6⟩) (fun hHeld7 => ?_)
   clear hK K
   try simp only [Act.put, sIa, sI0, sI1]
   refine rd 8 (h := fun K hK => ?_)
   go_simp
   have hfo := follow_any l.h l.a l.next w1 OK.out.a_
   simp only [hcs] at hfo
   refine hfo.mono ?_
   clear hfo
   rintro e w2 ⟨rfl, hk⟩
   have B2 := hHd (B1.out.kp hk (fun e => e))
   have K2 := hHd (K1.out.trans hk)
   have Z2 := hHd (Z1.out.kp hk (fun e => e))
   clear hk
   go_wp2_with fail
   refine hK.out _ _ (⟨B2.out.cell 0, B2.out.cell 1, B2.out.cell 2, B2.out.cell 3, B2.out.cell 4, B2.out.cell 5, B2.out.cell 6⟩) (fun hHeld8 => ?_)
   clear hK K
   try simp only [Act.put, sIa, sI0, sI1]
   refine rd 10 (h := fun K hK => ?_)
   rw [if_pos (by rfl)]
   refine dwp_store_box 122 (.tmp 4) (.tmp 19) rfl g4 [.int .u64 ((l.h.g + 1) % 18446744073709551616 : Nat), .int .u64 l.next, .int .i64 l.h.n, .string ⟨l.h.note.toArray⟩, .int .i64 (1 - l.a : Nat)] rfl rfl Z2.out rfl info_head (hcs_one l.newHead (1 - l.a)) ?_
   intro w4 hb4 hk4
   have H4 := hHd (show Box w4 g4 122 #[.int .u64 hn.g, .int .u64 hn.f, .int .i64 hn.n, .string ⟨hn.note.toArray⟩, .int .i64 (1 - l.a : Nat)] by rw [<- HHN.out]; exact hb4)
   have B4 := hHd (B2.out.kp hk4 (fun e => by omega))
   have K4 := hHd (K2.out.trans_new hk4 (fun b e => .inl (by omega)))
   have D4 := hHd (DD.out.still K4.out)
   have G4 : g4 ≠ g := by omega
   clear hb4 hk4
   refine hK.out _ _ (⟨B4.out.cell 0, B4.out.cell 1, B4.out.cell 2, B4.out.cell 3, B4.out.cell 4, B4.out.cell 5, B4.out.cell 6⟩) (fun hHeld9 => ?_)
   clear hK K
   try simp only [Act.put]
   refine wpAnyH_done (by kernel_rfl) ?_ _
   clear hHeld
   have hgg : g4 ≠ g := G4
   go_upto_region 5 with fail
   refine wp_region_held_drew (S := fun v => v.cell? ⟨g4, 0, none⟩ = some (.int .u64 hn.g) /\ v.cell? ⟨g4, 1, none⟩ = some (.int .u64 hn.f) /\ v.cell? ⟨g4, 2, none⟩ = some (.int .i64 hn.n) /\ v.cell? ⟨g4, 3, none⟩ = some (.string ⟨hn.note.toArray⟩) /\ v.cell? ⟨g4, 4, none⟩ = some (.int .i64 (1 - l.a : Nat)) /\ v.cell? ⟨g, 0, none⟩ = some (.pointer (some ⟨b, 0, none⟩))) (by kernel_rfl) (⟨H4.out.cell 0, H4.out.cell 1, H4.out.cell 2, H4.out.cell 3, H4.out.cell 4, B4.out.cell 0⟩) (fun hHeld => ?_)
   refine tk 0 (h := ?_)
   refine tk 1 (h := ?_)
   refine tk 2 (h := ?_)
   refine tk 3 (h := ?_)
   refine tk 4 (h := ?_)
   refine tk 5 (h := ?_)
   refine rd 6 (h := fun K hK => ?_)
   go_simp
   have hwr := hwrite_any (newG (w := w) HF.out K4.out.drew.size) (D4.out.still (Kp.refl (fun _ => False) w4).drew).bothG (HT.out.kp K4.out.drew (fun e => e)) hn (1 - l.a) HNOK.out HWT.out
   simp only [hcs] at hwr
   rw [HR.out] at hwr
   refine hwr.mono ?_
   clear hwr
   rintro e w5 ⟨rfl, hd, hk⟩
   have D5 := hHd (hd.mono (F' := F) (fun _ e => e.1))
   have K5 := hHd (K4.out.drew.of_false.trans (hk.mono (fun _ _ e => e.1)))
   have H5 := hHd (H4.out.drew.kp hk (fun e => not_DT H4.out.drew ⟨by decide, by decide, by decide⟩ e.2))
   have B5 := hHd (B4.out.drew.kp hk (fun e => not_DT B4.out.drew ⟨by decide, by decide, by decide⟩ e.2))
   clear hd hk
   go_wp2_with fail
   refine hK.out _ _ (⟨H5.out.cell 0, H5.out.cell 1, H5.out.cell 2, H5.out.cell 3, H5.out.cell 4, B5.out.cell 0⟩) (fun hHeld1 => ?_)
   clear hK K
   try simp only [Act.put, sIa, sI0, sI1]
   refine rd 7 (h := fun K hK => ?_)
   go_simp
   refine (hear_any g b l r2 w5 B5.out).mono ?_
   rintro e w6 ⟨rfl, hb, hk⟩
   have B6 := hHd hb
   have H6 := hHd (H5.out.kp hk hgg)
   have D6 := hHd (D5.out.off B5.out ⟨by decide, by decide, by decide⟩ hk)
   have K6 := hHd ((K5.out.mono (S' := fun k => F k \/ k = g) (fun _ _ e => .inl e)).trans (hk.mono (fun _ _ e => .inr e)))
   clear hb hk
   go_wp2_with fail
   refine hK.out _ _ (⟨H6.out.cell 0, H6.out.cell 1, H6.out.cell 2, H6.out.cell 3, H6.out.cell 4, B6.out.cell 0⟩) (fun hHeld2 => ?_)
   clear hK K
   try simp only [Act.put, sIa, sI0, sI1]
   refine tk 8 (h := ?_)
   refine wpAnyH_done (by kernel_rfl) ?_ _
   clear hHeld
   by_cases hz : r2 = 0
   ·subst hz
    have HX2 := hHd (HX.out.trans (if_pos rfl))
    have HB := hHd (show Box w6 g 130 (lcs b l) by
     have := B6.out
     have e : ({ l with dead := l.dead || (0 : Int) == 4 } : Lm) = l := by rw [show ((0 : Int) == 4) = false from rfl, Bool.or_false]
     rwa [e] at this)
    go_upto_region 8 with fail
    have B7 := hHd (show Box w6 g 130 [.pointer (some ⟨b, 0, none⟩), .int .u64 l.h.g, .int .u64 l.h.f, .int .i64 l.h.n, .string ⟨l.h.note.toArray⟩, .int .i64 l.a, .int .u64 l.next, .int .i64 l.left, .bool l.dead].toArray from HB.out)
    have H7 := hHd H6.out
    have K7 := hHd K6.out
    have D7 := hHd D6.out
    generalize w6 = w7 at *
    refine wp_region_held_drew (S := fun v => v.cell? ⟨g4, 0, none⟩ = some (.int .u64 hn.g) /\ v.cell? ⟨g4, 1, none⟩ = some (.int .u64 hn.f) /\ v.cell? ⟨g4, 2, none⟩ = some (.int .i64 hn.n) /\ v.cell? ⟨g4, 3, none⟩ = some (.string ⟨hn.note.toArray⟩) /\ v.cell? ⟨g4, 4, none⟩ = some (.int .i64 (1 - l.a : Nat))) (by kernel_rfl) (⟨H7.out.cell 0, H7.out.cell 1, H7.out.cell 2, H7.out.cell 3, H7.out.cell 4⟩) (fun hHeld => ?_)
    refine tk 0 (h := ?_)
    refine tk 1 (h := ?_)
    refine tk 2 (h := ?_)
    refine tk 3 (h := ?_)
    refine tk 4 (h := ?_)
    refine tk 5 (h := ?_)
    refine tk 6 (h := ?_)
    refine rd 7 (h := fun K hK => ?_)
    rw [if_pos (by rfl)]
    refine wp_store_mid 122 (.tmp 37) (.tmp 33) rfl g 1 #[.int .u64 hn.g, .int .u64 hn.f, .int .i64 hn.n, .string ⟨hn.note.toArray⟩, .int .i64 (1 - l.a : Nat)] rfl rfl (box_there B7.out.drew 1 5 (by simp)) (by kernel_rfl) (all_oneCell_toArray (hcs_one hn (1 - l.a))) ?_
    have B8 := hHd (Box.writes [.int .u64 hn.g, .int .u64 hn.f, .int .i64 hn.n, .string ⟨hn.note.toArray⟩, .int .i64 (1 - l.a : Nat)] 1 w7.drew _ B7.out.drew (by simp))
    have K8 := hHd (Kp.setCells (S := fun k => k = g) [.int .u64 hn.g, .int .u64 hn.f, .int .i64 hn.n, .string ⟨hn.note.toArray⟩, .int .i64 (1 - l.a : Nat)] 1 w7.drew (Kp.refl (fun k => k = g) w7.drew) (.inr rfl))
    have H8 := hHd (H7.out.drew.kp K8.out hgg)
    simp only [List.take_succ_cons, List.take_zero, List.drop_succ_cons, List.drop_zero, List.cons_append, List.nil_append, List.length_cons, List.length_nil, Nat.reduceAdd] at B8
    generalize w7.drew.setCells g 1 _ = w8 at *
    refine hK.out _ _ (⟨H8.out.cell 0, H8.out.cell 1, H8.out.cell 2, H8.out.cell 3, H8.out.cell 4⟩) (fun hHeld3 => ?_)
    clear hK K
    try simp only [Act.put]
    refine tk 8 (h := ?_)
    refine tk 9 (h := ?_)
    refine rd 10 (h := fun K hK => ?_)
    have c7 := B8.out.cell 7
    have f7 := B8.out.free 7
    simp at c7
    go_simp
    have B9 := hHd (B8.out.put 7 (.int .i64 hn.n))
    have K9 := hHd ((Kp.one w8 g 7 (.int .i64 hn.n)))
    have H9 := hHd (H8.out.kp K9.out hgg)
    clear c7 f7
    generalize w8.setCell ⟨g, 7, none⟩ (.int .i64 hn.n) = w9 at *
    refine hK.out _ _ (⟨H9.out.cell 0, H9.out.cell 1, H9.out.cell 2, H9.out.cell 3, H9.out.cell 4⟩) (fun hHeld4 => ?_)
    clear hK K
    try simp only [Act.put, sIa, sI0, sI1]
    refine wpAnyH_done (by kernel_rfl) ?_ _
    go_wp2_with fail
    go_ret
    rw [HX2.out]
    have kg := K8.out.trans K9.out
    refine ⟨rfl, (D7.out.still (Kp.refl (fun _ => False) w7).drew).off B7.out.drew ⟨by decide, by decide, by decide⟩ kg, ?_, K7.out.drew.trans (kg.mono (fun _ _ e => .inr e))⟩
    rw [show l.h.n = hn.n by rw [<- HHN.out]; rfl]
    exact B9.out
   ·have HX2 := hHd (HX.out.trans (if_neg hz))
    have hne : (r2 != 0) = true := by simpa using hz
    have HB := hHd (show Box w6 g 130 (lcs b { l with dead := r2 == 4 }) by
     have := B6.out
     have e : ({ l with dead := l.dead || r2 == 4 } : Lm) = { l with dead := r2 == 4 } := by rw [HDD.out, Bool.false_or]
     rwa [e] at this)
    clear hz
    go_wp2_with fail
    go_ret
    rw [HX2.out]
    exact ⟨rfl, D6.out, HB.out, K6.out⟩
 ·have hr := ready_any g b l w hb
  rw [hdd, if_pos rfl] at hr
  have HX := hHd (show l.trimS d = (l, d, 4) by simp [Lm.trimS, hdd])
  clear hdd hb
  go_enter Tryz.func48, Tryz.ntmps48
  go_wp2_with fail
  refine hr.mono ?_
  clear hr
  rintro e w1 ⟨rfl, rfl⟩
  go_wp2_with fail
  go_ret
  rw [HX.out]
  exact ⟨rfl, DD.out, BL.out, Kp.refl _ _⟩
end
end Go.Proofs.YtepaeliamhjgiaaGreatDoor
