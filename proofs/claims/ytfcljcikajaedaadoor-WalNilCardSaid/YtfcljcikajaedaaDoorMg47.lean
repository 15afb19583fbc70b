/- wakes: the log that is known answers as the document says. Condition: the table of half bytes reads as the program's text lays it. -/
import Derived.Test.YtfcljcikajaedaaDoorMg46
import Derived.Test.YtfcljcikajaedaaDoorMg29
namespace Go.Proofs.YtfcljcikajaedaaDoor
open Go.RowKit Go.Maps

theorem newB {B : Nat} {W : World} (h : B ≤ W.heap.size) : ∀ k, W.heap.size ≤ k → B ≤ k := fun _ hk => Nat.le_trans h hk
set_option maxRecDepth 100000 in
set_option maxHeartbeats 8000000 in
theorem wakes_true (w : World) (ht : Tbl w) : Calls Tryd.prog 4 #[] w fun e w' => e = .returned (.bool true) ∧ Kp (fun _ => False) w w' := by
  obtain ⟨d1, d2, d3, d4, l0, l1, l2, l3, l4, hm⟩ := wake_model
  have M := Lib.hid hm
  have T0 := Lib.hid ht
  have hft : ¬ (w.heap.size ≤ 0) := by have := halves_old ht; omega
  clear hm ht
  go_enter Tryd.func4, Tryd.ntmps4
  go_wp2_with fail
  refine (dnew_any 100 (by decide) (by decide) w).mono ?_
  rintro e w1 ⟨b, rfl, hd, hk⟩
  have D1 := Lib.hid hd
  have K1 := Lib.hid (hk.of_false (S := fun k => w.heap.size ≤ k))
  have T1 := Lib.hid (T0.out.kp hk (fun e => e))
  clear hd hk
  go_wp2_with fail
  refine (format_any (newB K1.out.size) D1.out T1.out 96 [110] (by show 0 + 1 < _; decide)).mono ?_
  rintro e w2 ⟨rfl, hd, hk⟩
  rw [M.out.f] at hd ⊢
  have D2 := Lib.hid hd
  have K2 := Lib.hid (K1.out.trans hk)
  have T2 := Lib.hid (T1.out.kp hk hft)
  clear hd hk
  go_wp2_with fail
  have ho := open_any D2.out T2.out M.out.h1
  rw [M.out.o1] at ho
  refine ho.mono ?_
  clear ho
  rintro e w3 ⟨g, v, rfl, hg, hr, hgw, hk⟩
  obtain ⟨A, c, rfl⟩ := own_shape3 hr
  have G3 := Lib.hid hg
  have K3 := Lib.hid (K2.out.trans hk.of_false)
  have D3 := Lib.hid (D2.out.still hk)
  have T3 := Lib.hid (T2.out.kp hk (fun e => e))
  have hgb : w.heap.size ≤ g := Nat.le_trans K2.out.size hgw
  rw [show (([] : List (List UInt8)).length) = 0 from rfl]
  clear hg hr hk hgw
  go_wp2_with fail
  refine (commit_any (F := fun k => w.heap.size ≤ k) (newB K3.out.size) (fun h => hft h.1) D3.out T3.out G3.out M.out.ok0 [97] (by decide) (by rw [M.out.w1]; decide)).mono ?_
  rintro e w4 ⟨rfl, hd, hg, hk⟩
  rw [M.out.c0] at hd hg ⊢
  have D4 := Lib.hid hd
  have G4 := Lib.hid hg
  have K4 := Lib.hid (K3.out.trans (hk.mono (S' := fun k => w.heap.size ≤ k) (fun k _ e => by rcases e with e | rfl; exact e; exact hgb)))
  have T4 := Lib.hid (T3.out.kp hk (fun e => hft (by rcases e with e | e; exact e; rw [e]; exact hgb)))
  clear hd hg hk
  go_wp2_with fail
  refine (trim_any (F := fun k => w.heap.size ≤ k) (newB K4.out.size) D4.out T4.out G4.out M.out.ok0 (by rw [M.out.w1]; decide)).mono ?_
  rintro e w5 ⟨rfl, hd, hg, hk⟩
  rw [M.out.t] at hd hg ⊢
  have D5 := Lib.hid hd
  have G5 := Lib.hid hg
  have K5 := Lib.hid (K4.out.trans (hk.mono (S' := fun k => w.heap.size ≤ k) (fun k _ e => by rcases e with e | rfl; exact e; exact hgb)))
  have T5 := Lib.hid (T4.out.kp hk (fun e => hft (by rcases e with e | e; exact e; rw [e]; exact hgb)))
  clear hd hg hk
  go_wp2_with fail
  refine (commit_any (F := fun k => w.heap.size ≤ k) (newB K5.out.size) (fun h => hft h.1) D5.out T5.out G5.out M.out.ok1 [97] (by decide) (by rw [M.out.w2]; decide)).mono ?_
  rintro e w6 ⟨rfl, hd, hg, hk⟩
  rw [M.out.ca] at hd hg ⊢
  have D6 := Lib.hid hd
  have G6 := Lib.hid hg
  have K6 := Lib.hid (K5.out.trans (hk.mono (S' := fun k => w.heap.size ≤ k) (fun k _ e => by rcases e with e | rfl; exact e; exact hgb)))
  have T6 := Lib.hid (T5.out.kp hk (fun e => hft (by rcases e with e | e; exact e; rw [e]; exact hgb)))
  clear hd hg hk
  go_wp2_with fail
  refine (commit_any (F := fun k => w.heap.size ≤ k) (newB K6.out.size) (fun h => hft h.1) D6.out T6.out G6.out M.out.ok2 [98] (by decide) (by rw [M.out.w3]; decide)).mono ?_
  rintro e w7 ⟨rfl, hd, hg, hk⟩
  rw [M.out.cb] at hd hg ⊢
  have D7 := Lib.hid hd
  have G7 := Lib.hid hg
  have K7 := Lib.hid (K6.out.trans (hk.mono (S' := fun k => w.heap.size ≤ k) (fun k _ e => by rcases e with e | rfl; exact e; exact hgb)))
  have T7 := Lib.hid (T6.out.kp hk (fun e => hft (by rcases e with e | e; exact e; rw [e]; exact hgb)))
  clear hd hg hk
  go_wp2_with fail
  have ho := open_any D7.out T7.out M.out.h4
  rw [M.out.o4] at ho
  refine ho.mono ?_
  clear ho
  rintro e w8 ⟨g2, v2, rfl, hg, hr, _, hk⟩
  obtain ⟨b2, c2, rfl, _, hc⟩ := (RdR.of_own hr).cell (by decide)
  have x0 := hc 0 (.string ⟨#[97]⟩) rfl
  have x1 := hc 1 (.string ⟨#[98]⟩) rfl
  have G8 := Lib.hid hg
  have L8 := Lib.hid (G7.out.kp hk (fun e => e))
  have K8 := Lib.hid (K7.out.trans hk.of_false)
  have hl3 := M.out.left3
  have hn4 := M.out.note4
  have hs4 := M.out.n4
  have hl4 := M.out.left4
  rw [show (([[97], [98]] : List (List UInt8)).length) = 2 from rfl]
  clear hg hr hk hc
  go_wp2_with fail
  have hc1 := lleft_any L8.out
  rw [hl3] at hc1
  refine hc1.mono ?_
  clear hc1
  rintro e w9 ⟨rfl, rfl⟩
  go_wp2_with fail
  have hc1 := lnote_any G8.out
  rw [hn4] at hc1
  refine hc1.mono ?_
  clear hc1
  rintro e w9 ⟨rfl, rfl⟩
  go_wp2_with fail
  have hc1 := lsectors_any G8.out
  rw [hs4] at hc1
  refine hc1.mono ?_
  clear hc1
  rintro e w9 ⟨rfl, rfl⟩
  go_wp2_with fail
  have hc1 := lleft_any G8.out
  rw [hl4] at hc1
  refine hc1.mono ?_
  clear hc1
  rintro e w9 ⟨rfl, rfl⟩
  go_wp2_with fail
  go_ret
  exact ⟨rfl, K8.out.fresh _⟩
end Go.Proofs.YtfcljcikajaedaaDoor
