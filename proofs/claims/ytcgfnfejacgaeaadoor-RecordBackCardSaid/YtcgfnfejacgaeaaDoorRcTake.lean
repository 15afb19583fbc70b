/- What record.Take answers: the head of a sector, whatever the bytes. Conditions: the table of half bytes reads as the program's text lays it; at most 2^47 bytes. -/
import Derived.Test.YtcgfnfejacgaeaaDoorRcSec
import Derived.Test.YtcgfnfejacgaeaaDoorOpi
namespace Go.Proofs.YtcgfnfejacgaeaaDoor
open Go.RowKit

def TakeEnd (l : List UInt8) (w : World) (e : Ending) (w' : World) : Prop := e = .returned (.tuple #[.agg (hcs (takeR l).1).toArray, .int .i64 (takeR l).2]) ∧ Kp (fun _ => False) w w'
theorem hcs_one (h : Hd) : ∀ v ∈ hcs h, v.oneCell' = true := by
  intro v hv
  simp only [hcs, List.mem_cons, List.not_mem_nil, or_false] at hv
  rcases hv with rfl | rfl | rfl <;> rfl
theorem info_head : (Tryd.prog.info? 32).map (·.size) = some 3 := by kernel_rfl
theorem take_res : Tryd.f9.results = #[.cell 2 32, .tmp 3] := by kernel_rfl
/-- The reader under way: the opener, the result's variable. -/
structure Tu (w v : World) (b : Nat) (s : List UInt8 × Bool) : Prop where
  o : Oi (w.heap.size + 1) (fun _ => False) v b s
  r : Box v w.heap.size 32 (hcs hd0).toArray
  kp : Kp (fun _ => False) w v
theorem Tu.call {w v v' : World} {b : Nat} {s s' : List UInt8 × Bool} (h : Tu w v b s) (ho : Oi (w.heap.size + 1) (fun _ => False) v' b s') (hk : Kp (fun k => k = b) v v') : Tu w v' b s' := by
  have hb := h.o.nb.2.1
  exact ⟨ho, h.r.kp hk (fun e => by omega), h.kp.trans_new hk (fun _ e => .inl (by omega))⟩
theorem Tu.ble {w v : World} {b : Nat} {s : List UInt8 × Bool} (h : Tu w v b s) : w.heap.size + 1 ≤ v.heap.size := h.r.lt
set_option maxRecDepth 100000 in
set_option maxHeartbeats 4000000 in
theorem rtake_any (A : Option Addr) (n c : Nat) (l : List UInt8) (w : World) (hn : l.length = n) (hr : Rd w A l) (hle : l.length ≤ 140737488355328) (ht : Tbl w) :
    Calls Tryd.prog 9 #[.slice A n c] w (TakeEnd l w) := by
  obtain ⟨W, hW, b2, k0⟩ : ∃ W, W = w.alloc (.cells (hcs hd0).toArray 32) ∧ Box W w.heap.size 32 (hcs hd0).toArray ∧ Kp (fun _ => False) w W := ⟨_, rfl, Box.new w _ _, (Kp.refl _ w).alloc _⟩
  have HW := Lib.hid hW
  have B2 := Lib.hid b2
  have K0 := Lib.hid k0
  have HR := Lib.hid hr
  have HT := Lib.hid ht
  have HN := Lib.hid hn
  have HLE := Lib.hid hle
  obtain ⟨b, hb⟩ : ∃ b, b = numN (gv 2 (rdBx l)).1 := ⟨_, rfl⟩
  obtain ⟨u, hu⟩ : ∃ u, u = numN (gv 2 (rdUs l)).1 := ⟨_, rfl⟩
  obtain ⟨s, hs⟩ : ∃ s, s = numN (gv 4 (rdSm l)).1 := ⟨_, rfl⟩
  have hok : (⟨b, u, s⟩ : Hd).Ok := by rw [hb, hu, hs]; exact rdH_ok l
  have HRD : Hid (rdH l = ⟨b, u, s⟩) := Lib.hid (by rw [hb, hu, hs]; rfl)
  obtain ⟨ob, ou, os⟩ := hok
  simp only at ob ou os
  have HOK : Hid ((⟨b, u, s⟩ : Hd).Ok) := Lib.hid ⟨ob, ou, os⟩
  have wb : IntKind.i64.wrap (b : Int) = (b : Int) := IntWalk.i64_in _ (by omega)
  have wu : IntKind.i64.wrap (u : Int) = (u : Int) := IntWalk.i64_in _ (by omega)
  have ws : IntKind.u32.wrap (s : Int) = (s : Int) := IntWalk.u32_in _ (by omega)
  have HB := Lib.hid hb
  have HU := Lib.hid hu
  have HS := Lib.hid hs
  clear hW b2 k0 hr ht hn hle hb hu hs ob ou os
  go_enter Tryd.func9, Tryd.ntmps9
  go_upto_region 1 with fail
  rw [show (#[Value.int IntKind.i64 0, Value.int IntKind.i64 0, Value.int IntKind.u32 0] : Array Value) = (hcs hd0).toArray from rfl, ← HW.out]
  go_wp2_with fail
  refine (of_any (fun k => w.heap.size + 1 ≤ k) W (fun k h => Nat.le_trans B2.out.lt h) A n c l HN.out (rd_still HR.out K0.out) HLE.out).mono ?_
  rintro e w1 ⟨o, rfl, _, ho, hk⟩
  have U1 : Hid (Tu w w1 o (l, false)) := Lib.hid ⟨⟨_, ho.old, fun k g => ⟨g.1, g.2, fun e => e⟩⟩, B2.out.kp hk (fun e => e), K0.out.trans hk⟩
  clear ho hk
  go_wp2_with fail
  refine (text_i U1.out.o (fun k e => e.elim) U1.out.ble 4).mono ?_
  rintro e w2 ⟨rfl, ho, hk⟩
  have U2 : Hid (Tu w w2 o (rdBx l)) := Lib.hid (U1.out.call ho hk)
  clear ho hk
  obtain ⟨tx, htx⟩ : ∃ tx : ByteArray, tx = ⟨(gv 4 (l, false)).1.toArray⟩ := ⟨_, rfl⟩
  rw [← htx]
  clear htx
  go_wp2_with fail
  have hc := take_i U2.out.o (fun k e => e.elim) U2.out.ble 2 rfl
  rw [← HB.out] at hc
  refine hc.mono ?_
  clear hc
  rintro e w3 ⟨rfl, ho, hk⟩
  have U3 : Hid (Tu w w3 o (rdUs l)) := Lib.hid (U2.out.call ho hk)
  clear ho hk
  go_wp2_with fail
  have hc := take_i U3.out.o (fun k e => e.elim) U3.out.ble 2 rfl
  rw [← HU.out] at hc
  refine hc.mono ?_
  clear hc
  rintro e w4 ⟨rfl, ho, hk⟩
  have U4 : Hid (Tu w w4 o (rdSm l)) := Lib.hid (U3.out.call ho hk)
  clear ho hk
  go_wp2_with fail
  have hc := take_i U4.out.o (fun k e => e.elim) U4.out.ble 4 rfl
  rw [← HS.out] at hc
  refine hc.mono ?_
  clear hc
  rintro e w5 ⟨rfl, ho, hk⟩
  have U5 := Lib.hid (U4.out.call ho hk)
  clear ho hk
  go_upto_region 4 with fail
  obtain ⟨g, hg⟩ : ∃ g, g = w5.heap.size := ⟨_, rfl⟩
  obtain ⟨w6, hw6⟩ : ∃ v, v = w5.alloc (.cells #[.int .i64 b, .int .i64 u, .int .u32 s] 32) := ⟨_, rfl⟩
  have B6 : Hid (Box w6 g 32 (hcs ⟨b, u, s⟩).toArray) := Lib.hid (by rw [hw6, hg]; exact Box.new _ _ _)
  have k56 : Kp (fun _ => False) w5 w6 := by rw [hw6]; exact (Kp.refl _ _).alloc _
  have R6 := Lib.hid (U5.out.r.kp k56 (fun e => e))
  have K6 := Lib.hid (U5.out.kp.trans k56)
  have T6 := Lib.hid (HT.out.still K6.out)
  have HG : Hid (w.heap.size ≠ g) := Lib.hid (by have := U5.out.r.lt; omega)
  have y0 : w6.cell? ⟨g, 0, none⟩ = some (.int .i64 b) := B6.out.cell 0
  have y1 : w6.cell? ⟨g, 1, none⟩ = some (.int .i64 u) := B6.out.cell 1
  have y2 : w6.cell? ⟨g, 2, none⟩ = some (.int .u32 s) := B6.out.cell 2
  rw [← hw6, ← hg]
  have hmay := mayUsed_any u w6
  have HMAY := Lib.hid hmay
  clear hw6 hg k56 hmay wb wu ws U5 U4 U3 U2 U1
  go_wp2_with fail
  refine HMAY.out.mono ?_
  rintro e w7 ⟨rfl, rfl⟩
  by_cases hu : u ≤ 2048
  · rw [show decide (u ≤ 2048) = true by simpa using hu]
    have HUU := Lib.hid hu
    clear hu HMAY
    go_wp2_with fail
    refine (sector_any ⟨b, u, s⟩ w6 HOK.out T6.out).mono ?_
    rintro e w8 ⟨A8, c8, rfl, h1, h2, h3, h4, h5⟩
    have HR8 := Lib.hid h3
    have K68 := Lib.hid h5
    have K8 := Lib.hid (K6.out.trans h5)
    have B8 := Lib.hid (B6.out.kp h5 (fun e => e))
    have R8 := Lib.hid (R6.out.kp h5 (fun e => e))
    clear h1 h2 h3 h4 h5 y0 y1 y2
    go_wp2_with fail
    refine (nequal_any A A8 c c8 n 512 l (secR ⟨b, u, s⟩) w8 HN.out (secR_len _) (rd_still HR.out K8.out) HR8.out).mono ?_
    rintro e w9 ⟨rfl, rfl⟩
    by_cases heq : l = secR ⟨b, u, s⟩
    · have hE : (l == secR ⟨b, u, s⟩) = true := by rw [← heq]; simp
      have HV : Hid (takeR l = (⟨b, u, s⟩, 0)) := Lib.hid (by unfold takeR; rw [HRD.out, if_pos ⟨HUU.out, heq⟩])
      rw [hE]
      clear hE heq
      go_wp2_with (first | (refine wpList_load_mid rfl 32 (.tmp 5) rfl g 0 rfl (hcs ⟨b, u, s⟩) _ B8.out.range' Tryd.underlying32 rfl info_head ?_) | (refine nstore_box rfl 32 (.tmp 2) (.tmp 32) rfl w.heap.size (hcs ⟨b, u, s⟩) rfl rfl R8.out rfl info_head (hcs_one _) ?_; intro w10 hb10 hk10; have HB10 := Lib.hid hb10; have HK10 := Lib.hid hk10; clear hb10 hk10) | fail)
      refine bodyPost_ret (v := .tuple #[.agg (hcs ⟨b, u, s⟩).toArray, .int .i64 0]) ?_ rfl ?_
      · exact nresults_two take_res _ _ w.heap.size 32 _ (0, 0) _ rfl HB10.out Tryd.underlying32 rfl info_head
      · rw [TakeEnd, HV.out]
        exact ⟨rfl, K8.out.trans_new HK10.out (fun _ e => .inl (by omega))⟩
    · have hE : (l == secR ⟨b, u, s⟩) = false := by simpa using heq
      have HV : Hid (takeR l = (hd0, 3)) := Lib.hid (by unfold takeR; rw [HRD.out, if_neg (fun h => heq h.2)])
      rw [hE]
      clear hE heq
      go_wp2_with (first | (refine nstore_box rfl 32 (.tmp 2) (.tmp 31) rfl w.heap.size (hcs hd0) rfl rfl R8.out rfl info_head (hcs_one _) ?_; intro w10 hb10 hk10; have HB10 := Lib.hid hb10; have HK10 := Lib.hid hk10; clear hb10 hk10) | fail)
      refine bodyPost_ret (v := .tuple #[.agg (hcs hd0).toArray, .int .i64 3]) ?_ rfl ?_
      · exact nresults_two take_res _ _ w.heap.size 32 _ (0, 0) _ rfl HB10.out Tryd.underlying32 rfl info_head
      · rw [TakeEnd, HV.out]
        exact ⟨rfl, K8.out.trans_new HK10.out (fun _ e => .inl (by omega))⟩
  · rw [show decide (u ≤ 2048) = false by simpa using hu]
    have HV : Hid (takeR l = (hd0, 3)) := Lib.hid (by unfold takeR; rw [HRD.out, if_neg (fun h => hu h.1)])
    clear hu HMAY y0 y1 y2
    go_wp2_with (first | (refine nstore_box rfl 32 (.tmp 2) (.tmp 31) rfl w.heap.size (hcs hd0) rfl rfl R6.out rfl info_head (hcs_one _) ?_; intro w10 hb10 hk10; have HB10 := Lib.hid hb10; have HK10 := Lib.hid hk10; clear hb10 hk10) | fail)
    refine bodyPost_ret (v := .tuple #[.agg (hcs hd0).toArray, .int .i64 3]) ?_ rfl ?_
    · exact nresults_two take_res _ _ w.heap.size 32 _ (0, 0) _ rfl HB10.out Tryd.underlying32 rfl info_head
    · rw [TakeEnd, HV.out]
      exact ⟨rfl, K6.out.trans_new HK10.out (fun _ e => .inl (by omega))⟩
end Go.Proofs.YtcgfnfejacgaeaaDoor
