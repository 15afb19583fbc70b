/- The law of pages, part 16 of 55: WlCounts. -/
import Derived.Test.YtepaeliamhjgiaaGreatDoorMu1
import Derived.Test.YtepaeliamhjgiaaGreatDoorMu5
import Derived.Test.YtepaeliamhjgiaaGreatDoorMu15
set_option maxHeartbeats 16000000
set_option maxRecDepth 100000
namespace Go.Proofs.YtepaeliamhjgiaaGreatDoor
open Go.RowKit
def countV (d : Dm) : Value := if d.power then (match d.heads with
  |some (h, a) => .tuple #[.agg (hcs h a).toArray, .bool true, .int .i64 0]
  |none => .tuple #[.agg #[.int .u64 0, .int .u64 0, .int .i64 0, .string ⟨#[]⟩, .int .i64 0], .bool false, .int .i64 0])
 else .tuple #[.agg #[.int .u64 0, .int .u64 0, .int .i64 0, .string ⟨#[]⟩, .int .i64 0], .bool false, .int .i64 4]
theorem results_three {P : Program} {fn : Func} {p u v : Tmp} {ty : TypeId} (h : fn.results = #[.cell p ty, .tmp u, .tmp v]) (tmps : Array Value) (w : World) (g : Nat) (t : TypeId) (cs : Array Value) (fr : Nat × Nat) (d : TypeDesc)
  (hp : tmps.getD p undef = .pointer (some ⟨g, 0, none⟩)) (hg : w.heap[g]? = some (.cells cs t fr))
  (hu : P.underlying ty = some d) (hd : (match d with | .struct _ | .array _ _ => true | _ => false) = true) (hi : (P.info? ty).map (·.size) = some cs.size) :
  (results fn tmps).run P w = .ok (.tuple #[.agg cs, tmps.getD u undef, tmps.getD v undef]) w := by
 have hp' : tmps[p]?.getD undef = .pointer (some ⟨g, 0, none⟩) := by simpa using hp
 simp [results, h, hp', asAddr, run_loadVar_row w g t ty cs fr d hg hu hd hi, Result.andThen]
theorem count_start (w : World) (b : Nat) : ∃ W, W = ((w.alloc (.cells #[.pointer (some ⟨b, 0, none⟩)] 35)).alloc (.cells #[.int .u64 0, .int .u64 0, .int .i64 0, .string ⟨#[]⟩, .int .i64 0] 122)).alloc (.cells #[.int .i64 0] 32) /\ Box W w.heap.size 35 #[.pointer (some ⟨b, 0, none⟩)] /\ Box W (w.heap.size + 1) 122 #[.int .u64 0, .int .u64 0, .int .i64 0, .string ⟨#[]⟩, .int .i64 0] /\ Box W (w.heap.size + 2) 32 #[.int .i64 0] /\ Kp (fun _ => False) w W := by
 refine ⟨_, rfl, ((Box.new w _ _).alloc _).alloc _, ?_, ?_, (((Kp.refl _ w).alloc _).alloc _).alloc _⟩
 ·have := (Box.new (w.alloc (.cells #[.pointer (some ⟨b, 0, none⟩)] 35)) 122 #[.int .u64 0, .int .u64 0, .int .i64 0, .string ⟨#[]⟩, .int .i64 0]).alloc (.cells #[.int .i64 0] 32)
  rwa [World.size_alloc] at this
 ·have := Box.new ((w.alloc (.cells #[.pointer (some ⟨b, 0, none⟩)] 35)).alloc (.cells #[.int .u64 0, .int .u64 0, .int .i64 0, .string ⟨#[]⟩, .int .i64 0] 122)) 32 #[.int .i64 0]
  rwa [World.size_alloc, World.size_alloc] at this
theorem halves_old {w : World} (h : Tbl w) : 1 < w.heap.size := World.block_lt_of_cell? w ⟨1, 0, none⟩ (h 0 (by decide))
section
variable {w : World} {b : Nat} {d : Dm} {F : Nat -> Prop}
theorem counting_any (hD : Dsk F w b d) (ht : Tbl w) :
  Calls Tryz.prog 85 #[.pointer (some ⟨b, 0, none⟩)] w fun e w' => e = .returned (countV d) /\ Kp (fun _ => False) w w' := by
 obtain ⟨vs, vw, gm, hdk, hsub⟩ := hD
 have ok := hdk.ok
 have hD : Dsk F w b d := ⟨vs, vw, gm, hdk, hsub⟩
 clear hdk hsub
 obtain ⟨W0, hW, hp0, hr0, he0, hk0⟩ := count_start w b
 have HW := hHd hW
 have P0 := hHd hp0
 have R0 := hHd hr0
 have E0 := hHd he0
 have K0 := hHd hk0
 have DD := hHd hD
 have D0 := hHd (hD.still hk0)
 have HT := hHd ht
 have hold := halves_old ht
 obtain ⟨HR⟩ : Nonempty (Hid (Tryz.f85.results = #[.cell 2 122, .tmp 3, .tmp 4])) := ⟨hHd rfl⟩
 have hsome := ok.some
 clear hW hp0 hr0 he0 hk0 hD ht
 rcases hpw : d.power with _ | _
 ·have V0 := hHd (show tellV d 0 = .tuple #[.agg #[.int .u64 0, .int .u64 0, .int .i64 0, .string ⟨#[]⟩, .int .i64 0], .bool false] by rw [tellV, hpw]; exact headV_none headS_nil)
  have I0 := hHd (show tellE d 0 = 4 by rw [tellE, hpw, if_neg (by decide), if_pos (by omega)])
  have HV := hHd (show countV d = .tuple #[.agg #[.int .u64 0, .int .u64 0, .int .i64 0, .string ⟨#[]⟩, .int .i64 0], .bool false, .int .i64 4] by rw [countV, hpw]; rfl)
  clear ok hpw hsome
  go_enter Tryz.func85, Tryz.ntmps85
  go_upto_region 2 with fail
  rw [<- HW.out]
  go_wp2_with fail
  refine (tell_fine D0.out (HT.out.kp K0.out (fun e => e)) (w.heap.size + 2) w.heap.size E0.out P0.out (by omega) 0).mono ?_
  rintro e w1 ⟨rfl, he, hk⟩
  rw [V0.out]
  rw [I0.out] at he
  have E1 := hHd he
  have K1 := hHd (K0.out.trans_new (hk.mono (fun _ _ e => e)) (fun b e => .inl (by omega)))
  have P1 := hHd (P0.out.kp hk (fun e => by omega))
  have R1 := hHd (R0.out.kp hk (fun e => by omega))
  have D1 := hHd (DD.out.kp K1.out (fun _ _ e => e))
  clear he hk
  have E2 := hHd (E1.out.alloc (.cells #[.int .u64 0, .int .u64 0, .int .i64 0, .string ⟨#[]⟩, .int .i64 0] 122))
  have K2 := hHd (K1.out.alloc (.cells #[.int .u64 0, .int .u64 0, .int .i64 0, .string ⟨#[]⟩, .int .i64 0] 122))
  have P2 := hHd (P1.out.alloc (.cells #[.int .u64 0, .int .u64 0, .int .i64 0, .string ⟨#[]⟩, .int .i64 0] 122))
  have R2 := hHd (R1.out.alloc (.cells #[.int .u64 0, .int .u64 0, .int .i64 0, .string ⟨#[]⟩, .int .i64 0] 122))
  have B2 := hHd (Box.new w1 122 #[.int .u64 0, .int .u64 0, .int .i64 0, .string ⟨#[]⟩, .int .i64 0])
  have D2 := hHd (D1.out.kp ((Kp.refl (fun _ => False) w1).alloc (.cells #[.int .u64 0, .int .u64 0, .int .i64 0, .string ⟨#[]⟩, .int .i64 0] 122)) (fun _ _ e => e))
  have hg7 := E1.out.lt
  go_upto_region 4 with fail
  generalize w1.alloc (.cells #[.int .u64 0, .int .u64 0, .int .i64 0, .string ⟨#[]⟩, .int .i64 0] 122) = w2 at *
  generalize hgg : w1.heap.size = g7 at *
  clear hgg
  have hgl := B2.out.lt
  go_wp2_with fail
  refine (tell_failed (w := w2) (w.heap.size + 2) w.heap.size E2.out 1).mono ?_
  rintro e w3 ⟨rfl, hk⟩
  have E3 := hHd (E2.out.kp hk (fun e => e))
  have K3 := hHd (K2.out.trans hk)
  have B3 := hHd (B2.out.kp hk (fun e => e))
  have R3 := hHd (R2.out.kp hk (fun e => e))
  clear hk
  have hg3 := B3.out.lt
  have E4 := hHd (E3.out.alloc (.cells #[.int .u64 0, .int .u64 0, .int .i64 0, .string ⟨#[]⟩, .int .i64 0] 122))
  have K4 := hHd (K3.out.alloc (.cells #[.int .u64 0, .int .u64 0, .int .i64 0, .string ⟨#[]⟩, .int .i64 0] 122))
  have R4 := hHd (R3.out.alloc (.cells #[.int .u64 0, .int .u64 0, .int .i64 0, .string ⟨#[]⟩, .int .i64 0] 122))
  have B4 := hHd (B3.out.alloc (.cells #[.int .u64 0, .int .u64 0, .int .i64 0, .string ⟨#[]⟩, .int .i64 0] 122))
  have C4 := hHd (Box.new w3 122 #[.int .u64 0, .int .u64 0, .int .i64 0, .string ⟨#[]⟩, .int .i64 0])
  go_upto_region 5 with fail
  generalize w3.alloc (.cells #[.int .u64 0, .int .u64 0, .int .i64 0, .string ⟨#[]⟩, .int .i64 0] 122) = w4 at *
  generalize hgg : w3.heap.size = g9 at *
  clear hgg
  have b0 := B4.out.cell 0
  have c0 := C4.out.cell 0
  simp at b0 c0
  go_wp2_with fail
  clear b0 c0
  have BX := hHd B4.out
  have EX := hHd E4.out
  have RX := hHd R4.out
  have KX := hHd K4.out
  refine wp_region_held_drew (S := fun v => v.cell? ⟨g7, 0, none⟩ = some (.int .u64 0) /\ v.cell? ⟨g7, 1, none⟩ = some (.int .u64 0) /\ v.cell? ⟨g7, 2, none⟩ = some (.int .i64 0) /\ v.cell? ⟨g7, 3, none⟩ = some (.string ⟨#[]⟩) /\ v.cell? ⟨g7, 4, none⟩ = some (.int .i64 0) /\ v.cell? ⟨w.heap.size + 2, 0, none⟩ = some (.int .i64 4)) (by kernel_rfl) (⟨(BX.out.cell 0), (BX.out.cell 1), (BX.out.cell 2), (BX.out.cell 3), (BX.out.cell 4), EX.out.cell 0⟩) (fun hHeld => ?_)
  refine tk 0 (h := ?_)
  refine tk 1 (h := ?_)
  refine tk 2 (h := ?_)
  refine rd 3 (h := fun K hK => ?_)
  rw [if_pos (by rfl)]
  refine dwp_store_box 122 (.tmp 2) (.tmp 35) rfl (w.heap.size + 1) [.int .u64 0, .int .u64 0, .int .i64 0, .string ⟨#[]⟩, .int .i64 0] rfl rfl (RX.out.drew) rfl info_head z5_one ?_
  intro W hb hk
  refine hK.out _ _ (⟨((BX.out.drew.kp hk (fun e => by omega)).cell 0), ((BX.out.drew.kp hk (fun e => by omega)).cell 1), ((BX.out.drew.kp hk (fun e => by omega)).cell 2), ((BX.out.drew.kp hk (fun e => by omega)).cell 3), ((BX.out.drew.kp hk (fun e => by omega)).cell 4), (EX.out.drew.kp hk (fun e => by omega)).cell 0⟩) (fun hHeld1 => ?_)
  clear hK K
  try simp only [Act.put]
  refine tk 4 (h := ?_)
  refine tk 5 (h := ?_)
  refine wpAnyH_done (by kernel_rfl) ?_ _
  go_wp2_with fail
  have KF : Kp (fun _ => False) w W := KX.out.drew.trans_new hk (fun b e => .inl (by omega))
  rw [HV.out]
  refine bodyPost_ret (v := .tuple #[.agg #[.int .u64 0, .int .u64 0, .int .i64 0, .string ⟨#[]⟩, .int .i64 0], .bool false, .int .i64 4]) ?_ rfl ⟨rfl, KF⟩
  exact results_three HR.out _ _ (w.heap.size + 1) 122 _ (0, 0) _ rfl hb Tryz.underlying122 rfl info_head
 ·have I0 := hHd (show tellE d 0 = 0 by simp [tellE, hpw])
  have I1 := hHd (show tellE d 1 = 0 by simp [tellE, hpw])
  have hc : countV d = match d.heads with
    |some (h, a) => .tuple #[.agg (hcs h a).toArray, .bool true, .int .i64 0]
    |none => .tuple #[.agg #[.int .u64 0, .int .u64 0, .int .i64 0, .string ⟨#[]⟩, .int .i64 0], .bool false, .int .i64 0] := by rw [countV, hpw]; rfl
  have ht0 : tellV d 0 = headV (d.nowAt 0) 0 := by rw [tellV, hpw]; rfl
  have ht1 : tellV d 1 = headV (d.nowAt 1) 1 := by rw [tellV, hpw]; rfl
  clear ok hpw hsome
  unfold Dm.heads at hc
  rcases hx : headS (d.nowAt 0) with _ | x
  ·have V0 := hHd (show tellV d 0 = .tuple #[.agg #[.int .u64 0, .int .u64 0, .int .i64 0, .string ⟨#[]⟩, .int .i64 0], .bool false] from ht0.trans (headV_none hx))
   rcases hy : headS (d.nowAt 1) with _ | y
   ·have V1 := hHd (show tellV d 1 = .tuple #[.agg #[.int .u64 0, .int .u64 0, .int .i64 0, .string ⟨#[]⟩, .int .i64 0], .bool false] from ht1.trans (headV_none hy))
    rw [hx, hy] at hc
    have HV := hHd hc
    clear ht0 ht1 hc hx hy
    go_enter Tryz.func85, Tryz.ntmps85
    go_upto_region 2 with fail
    rw [<- HW.out]
    go_wp2_with fail
    refine (tell_fine D0.out (HT.out.kp K0.out (fun e => e)) (w.heap.size + 2) w.heap.size E0.out P0.out (by omega) 0).mono ?_
    rintro e w1 ⟨rfl, he, hk⟩
    rw [V0.out]
    rw [I0.out] at he
    have E1 := hHd he
    have K1 := hHd (K0.out.trans_new (hk.mono (fun _ _ e => e)) (fun b e => .inl (by omega)))
    have P1 := hHd (P0.out.kp hk (fun e => by omega))
    have R1 := hHd (R0.out.kp hk (fun e => by omega))
    have D1 := hHd (DD.out.kp K1.out (fun _ _ e => e))
    clear he hk
    have E2 := hHd (E1.out.alloc (.cells #[.int .u64 0, .int .u64 0, .int .i64 0, .string ⟨#[]⟩, .int .i64 0] 122))
    have K2 := hHd (K1.out.alloc (.cells #[.int .u64 0, .int .u64 0, .int .i64 0, .string ⟨#[]⟩, .int .i64 0] 122))
    have P2 := hHd (P1.out.alloc (.cells #[.int .u64 0, .int .u64 0, .int .i64 0, .string ⟨#[]⟩, .int .i64 0] 122))
    have R2 := hHd (R1.out.alloc (.cells #[.int .u64 0, .int .u64 0, .int .i64 0, .string ⟨#[]⟩, .int .i64 0] 122))
    have B2 := hHd (Box.new w1 122 #[.int .u64 0, .int .u64 0, .int .i64 0, .string ⟨#[]⟩, .int .i64 0])
    have D2 := hHd (D1.out.kp ((Kp.refl (fun _ => False) w1).alloc (.cells #[.int .u64 0, .int .u64 0, .int .i64 0, .string ⟨#[]⟩, .int .i64 0] 122)) (fun _ _ e => e))
    have hg7 := E1.out.lt
    go_upto_region 4 with fail
    generalize w1.alloc (.cells #[.int .u64 0, .int .u64 0, .int .i64 0, .string ⟨#[]⟩, .int .i64 0] 122) = w2 at *
    generalize hgg : w1.heap.size = g7 at *
    clear hgg
    have hgl := B2.out.lt
    go_wp2_with fail
    refine (tell_fine D2.out (HT.out.kp K2.out (fun e => e)) (w.heap.size + 2) w.heap.size E2.out P2.out (by omega) 1).mono ?_
    rintro e w3 ⟨rfl, he, hk⟩
    rw [V1.out]
    rw [I1.out] at he
    have E3 := hHd he
    have K3 := hHd (K2.out.trans_new hk (fun b e => .inl (by omega)))
    have B3 := hHd (B2.out.kp hk (fun e => by omega))
    have R3 := hHd (R2.out.kp hk (fun e => by omega))
    clear he hk
    have hg3 := B3.out.lt
    have E4 := hHd (E3.out.alloc (.cells #[.int .u64 0, .int .u64 0, .int .i64 0, .string ⟨#[]⟩, .int .i64 0] 122))
    have K4 := hHd (K3.out.alloc (.cells #[.int .u64 0, .int .u64 0, .int .i64 0, .string ⟨#[]⟩, .int .i64 0] 122))
    have R4 := hHd (R3.out.alloc (.cells #[.int .u64 0, .int .u64 0, .int .i64 0, .string ⟨#[]⟩, .int .i64 0] 122))
    have B4 := hHd (B3.out.alloc (.cells #[.int .u64 0, .int .u64 0, .int .i64 0, .string ⟨#[]⟩, .int .i64 0] 122))
    have C4 := hHd (Box.new w3 122 #[.int .u64 0, .int .u64 0, .int .i64 0, .string ⟨#[]⟩, .int .i64 0])
    go_upto_region 5 with fail
    generalize w3.alloc (.cells #[.int .u64 0, .int .u64 0, .int .i64 0, .string ⟨#[]⟩, .int .i64 0] 122) = w4 at *
    generalize hgg : w3.heap.size = g9 at *
    clear hgg
    have b0 := B4.out.cell 0
    have c0 := C4.out.cell 0
    simp at b0 c0
    go_wp2_with fail
    clear b0 c0
    have BX := hHd B4.out
    have EX := hHd E4.out
    have RX := hHd R4.out
    have KX := hHd K4.out
    refine wp_region_held_drew (S := fun v => v.cell? ⟨g7, 0, none⟩ = some (.int .u64 0) /\ v.cell? ⟨g7, 1, none⟩ = some (.int .u64 0) /\ v.cell? ⟨g7, 2, none⟩ = some (.int .i64 0) /\ v.cell? ⟨g7, 3, none⟩ = some (.string ⟨#[]⟩) /\ v.cell? ⟨g7, 4, none⟩ = some (.int .i64 0) /\ v.cell? ⟨w.heap.size + 2, 0, none⟩ = some (.int .i64 0)) (by kernel_rfl) (⟨(BX.out.cell 0), (BX.out.cell 1), (BX.out.cell 2), (BX.out.cell 3), (BX.out.cell 4), EX.out.cell 0⟩) (fun hHeld => ?_)
    refine tk 0 (h := ?_)
    refine tk 1 (h := ?_)
    refine tk 2 (h := ?_)
    refine rd 3 (h := fun K hK => ?_)
    rw [if_pos (by rfl)]
    refine dwp_store_box 122 (.tmp 2) (.tmp 35) rfl (w.heap.size + 1) [.int .u64 0, .int .u64 0, .int .i64 0, .string ⟨#[]⟩, .int .i64 0] rfl rfl (RX.out.drew) rfl info_head z5_one ?_
    intro W hb hk
    refine hK.out _ _ (⟨((BX.out.drew.kp hk (fun e => by omega)).cell 0), ((BX.out.drew.kp hk (fun e => by omega)).cell 1), ((BX.out.drew.kp hk (fun e => by omega)).cell 2), ((BX.out.drew.kp hk (fun e => by omega)).cell 3), ((BX.out.drew.kp hk (fun e => by omega)).cell 4), (EX.out.drew.kp hk (fun e => by omega)).cell 0⟩) (fun hHeld2 => ?_)
    clear hK K
    try simp only [Act.put]
    refine tk 4 (h := ?_)
    refine tk 5 (h := ?_)
    refine wpAnyH_done (by kernel_rfl) ?_ _
    go_wp2_with fail
    have KF : Kp (fun _ => False) w W := KX.out.drew.trans_new hk (fun b e => .inl (by omega))
    rw [HV.out]
    refine bodyPost_ret (v := .tuple #[.agg #[.int .u64 0, .int .u64 0, .int .i64 0, .string ⟨#[]⟩, .int .i64 0], .bool false, .int .i64 0]) ?_ rfl ⟨rfl, KF⟩
    exact results_three HR.out _ _ (w.heap.size + 1) 122 _ (0, 0) _ rfl hb Tryz.underlying122 rfl info_head
   ·have V1 := hHd (ht1.trans (headV_some hy))
    rw [hx, hy] at hc
    have HV := hHd hc
    clear ht0 ht1 hc hx hy
    simp only [hcs] at V1 HV
    go_enter Tryz.func85, Tryz.ntmps85
    go_upto_region 2 with fail
    rw [<- HW.out]
    go_wp2_with fail
    refine (tell_fine D0.out (HT.out.kp K0.out (fun e => e)) (w.heap.size + 2) w.heap.size E0.out P0.out (by omega) 0).mono ?_
    rintro e w1 ⟨rfl, he, hk⟩
    rw [V0.out]
    rw [I0.out] at he
    have E1 := hHd he
    have K1 := hHd (K0.out.trans_new (hk.mono (fun _ _ e => e)) (fun b e => .inl (by omega)))
    have P1 := hHd (P0.out.kp hk (fun e => by omega))
    have R1 := hHd (R0.out.kp hk (fun e => by omega))
    have D1 := hHd (DD.out.kp K1.out (fun _ _ e => e))
    clear he hk
    have E2 := hHd (E1.out.alloc (.cells #[.int .u64 0, .int .u64 0, .int .i64 0, .string ⟨#[]⟩, .int .i64 0] 122))
    have K2 := hHd (K1.out.alloc (.cells #[.int .u64 0, .int .u64 0, .int .i64 0, .string ⟨#[]⟩, .int .i64 0] 122))
    have P2 := hHd (P1.out.alloc (.cells #[.int .u64 0, .int .u64 0, .int .i64 0, .string ⟨#[]⟩, .int .i64 0] 122))
    have R2 := hHd (R1.out.alloc (.cells #[.int .u64 0, .int .u64 0, .int .i64 0, .string ⟨#[]⟩, .int .i64 0] 122))
    have B2 := hHd (Box.new w1 122 #[.int .u64 0, .int .u64 0, .int .i64 0, .string ⟨#[]⟩, .int .i64 0])
    have D2 := hHd (D1.out.kp ((Kp.refl (fun _ => False) w1).alloc (.cells #[.int .u64 0, .int .u64 0, .int .i64 0, .string ⟨#[]⟩, .int .i64 0] 122)) (fun _ _ e => e))
    have hg7 := E1.out.lt
    go_upto_region 4 with fail
    generalize w1.alloc (.cells #[.int .u64 0, .int .u64 0, .int .i64 0, .string ⟨#[]⟩, .int .i64 0] 122) = w2 at *
    generalize hgg : w1.heap.size = g7 at *
    clear hgg
    have hgl := B2.out.lt
    go_wp2_with fail
    refine (tell_fine D2.out (HT.out.kp K2.out (fun e => e)) (w.heap.size + 2) w.heap.size E2.out P2.out (by omega) 1).mono ?_
    rintro e w3 ⟨rfl, he, hk⟩
    rw [V1.out]
    rw [I1.out] at he
    have E3 := hHd he
    have K3 := hHd (K2.out.trans_new hk (fun b e => .inl (by omega)))
    have B3 := hHd (B2.out.kp hk (fun e => by omega))
    have R3 := hHd (R2.out.kp hk (fun e => by omega))
    clear he hk
    have hg3 := B3.out.lt
    have E4 := hHd (E3.out.alloc (.cells #[.int .u64 y.g, .int .u64 y.f, .int .i64 y.n, .string ⟨y.note.toArray⟩, .int .i64 1] 122))
    have K4 := hHd (K3.out.alloc (.cells #[.int .u64 y.g, .int .u64 y.f, .int .i64 y.n, .string ⟨y.note.toArray⟩, .int .i64 1] 122))
    have R4 := hHd (R3.out.alloc (.cells #[.int .u64 y.g, .int .u64 y.f, .int .i64 y.n, .string ⟨y.note.toArray⟩, .int .i64 1] 122))
    have B4 := hHd (B3.out.alloc (.cells #[.int .u64 y.g, .int .u64 y.f, .int .i64 y.n, .string ⟨y.note.toArray⟩, .int .i64 1] 122))
    have C4 := hHd (Box.new w3 122 #[.int .u64 y.g, .int .u64 y.f, .int .i64 y.n, .string ⟨y.note.toArray⟩, .int .i64 1])
    go_upto_region 5 with fail
    generalize w3.alloc (.cells #[.int .u64 y.g, .int .u64 y.f, .int .i64 y.n, .string ⟨y.note.toArray⟩, .int .i64 1] 122) = w4 at *
    generalize hgg : w3.heap.size = g9 at *
    clear hgg
    have b0 := B4.out.cell 0
    have c0 := C4.out.cell 0
    simp at b0 c0
    go_wp2_with (first | (refine wpList_load_mid rfl 122 (.tmp 9) rfl g9 0 rfl [.int .u64 y.g, .int .u64 y.f, .int .i64 y.n, .string ⟨y.note.toArray⟩, .int .i64 1] _ (Box.range' (L := [.int .u64 y.g, .int .u64 y.f, .int .i64 y.n, .string ⟨y.note.toArray⟩, .int .i64 1]) C4.out) Tryz.underlying122 rfl info_head ?_) | (refine wpList_store_box rfl 122 (.tmp 7) (.tmp 34) rfl g7 [.int .u64 y.g, .int .u64 y.f, .int .i64 y.n, .string ⟨y.note.toArray⟩, .int .i64 1] rfl rfl B4.out rfl info_head (hcs_one y 1) ?_; intro w5 hb5 hk5; clear b0 c0) | fail)
    have BX := hHd hb5
    have EX := hHd (E4.out.kp hk5 (fun e => by omega))
    have RX := hHd (R4.out.kp hk5 (fun e => by omega))
    have KX := hHd (K4.out.trans_new hk5 (fun b e => .inl (by omega)))
    clear hb5 hk5
    refine wp_region_held_drew (S := fun v => v.cell? ⟨g7, 0, none⟩ = some (.int .u64 y.g) /\ v.cell? ⟨g7, 1, none⟩ = some (.int .u64 y.f) /\ v.cell? ⟨g7, 2, none⟩ = some (.int .i64 y.n) /\ v.cell? ⟨g7, 3, none⟩ = some (.string ⟨y.note.toArray⟩) /\ v.cell? ⟨g7, 4, none⟩ = some (.int .i64 1) /\ v.cell? ⟨w.heap.size + 2, 0, none⟩ = some (.int .i64 0)) (by kernel_rfl) (⟨(BX.out.cell 0), (BX.out.cell 1), (BX.out.cell 2), (BX.out.cell 3), (BX.out.cell 4), EX.out.cell 0⟩) (fun hHeld => ?_)
    refine tk 0 (h := ?_)
    refine tk 1 (h := ?_)
    refine tk 2 (h := ?_)
    refine rd 3 (h := fun K hK => ?_)
    rw [if_pos (by rfl)]
    refine dwp_store_box 122 (.tmp 2) (.tmp 35) rfl (w.heap.size + 1) [.int .u64 y.g, .int .u64 y.f, .int .i64 y.n, .string ⟨y.note.toArray⟩, .int .i64 1] rfl rfl (RX.out.drew) rfl info_head (hcs_one y 1) ?_
    intro W hb hk
    refine hK.out _ _ (⟨((BX.out.drew.kp hk (fun e => by omega)).cell 0), ((BX.out.drew.kp hk (fun e => by omega)).cell 1), ((BX.out.drew.kp hk (fun e => by omega)).cell 2), ((BX.out.drew.kp hk (fun e => by omega)).cell 3), ((BX.out.drew.kp hk (fun e => by omega)).cell 4), (EX.out.drew.kp hk (fun e => by omega)).cell 0⟩) (fun hHeld3 => ?_)
    clear hK K
    try simp only [Act.put]
    refine tk 4 (h := ?_)
    refine tk 5 (h := ?_)
    refine wpAnyH_done (by kernel_rfl) ?_ _
    go_wp2_with fail
    have KF : Kp (fun _ => False) w W := KX.out.drew.trans_new hk (fun b e => .inl (by omega))
    rw [HV.out]
    refine bodyPost_ret (v := .tuple #[.agg #[.int .u64 y.g, .int .u64 y.f, .int .i64 y.n, .string ⟨y.note.toArray⟩, .int .i64 1], .bool true, .int .i64 0]) ?_ rfl ⟨rfl, KF⟩
    exact results_three HR.out _ _ (w.heap.size + 1) 122 _ (0, 0) _ rfl hb Tryz.underlying122 rfl info_head
  ·have V0 := hHd (ht0.trans (headV_some hx))
   rcases hy : headS (d.nowAt 1) with _ | y
   ·have V1 := hHd (show tellV d 1 = .tuple #[.agg #[.int .u64 0, .int .u64 0, .int .i64 0, .string ⟨#[]⟩, .int .i64 0], .bool false] from ht1.trans (headV_none hy))
    rw [hx, hy] at hc
    have HV := hHd hc
    clear ht0 ht1 hc hx hy
    simp only [hcs] at V0 HV
    go_enter Tryz.func85, Tryz.ntmps85
    go_upto_region 2 with fail
    rw [<- HW.out]
    go_wp2_with fail
    refine (tell_fine D0.out (HT.out.kp K0.out (fun e => e)) (w.heap.size + 2) w.heap.size E0.out P0.out (by omega) 0).mono ?_
    rintro e w1 ⟨rfl, he, hk⟩
    rw [V0.out]
    rw [I0.out] at he
    have E1 := hHd he
    have K1 := hHd (K0.out.trans_new (hk.mono (fun _ _ e => e)) (fun b e => .inl (by omega)))
    have P1 := hHd (P0.out.kp hk (fun e => by omega))
    have R1 := hHd (R0.out.kp hk (fun e => by omega))
    have D1 := hHd (DD.out.kp K1.out (fun _ _ e => e))
    clear he hk
    have E2 := hHd (E1.out.alloc (.cells #[.int .u64 x.g, .int .u64 x.f, .int .i64 x.n, .string ⟨x.note.toArray⟩, .int .i64 0] 122))
    have K2 := hHd (K1.out.alloc (.cells #[.int .u64 x.g, .int .u64 x.f, .int .i64 x.n, .string ⟨x.note.toArray⟩, .int .i64 0] 122))
    have P2 := hHd (P1.out.alloc (.cells #[.int .u64 x.g, .int .u64 x.f, .int .i64 x.n, .string ⟨x.note.toArray⟩, .int .i64 0] 122))
    have R2 := hHd (R1.out.alloc (.cells #[.int .u64 x.g, .int .u64 x.f, .int .i64 x.n, .string ⟨x.note.toArray⟩, .int .i64 0] 122))
    have B2 := hHd (Box.new w1 122 #[.int .u64 x.g, .int .u64 x.f, .int .i64 x.n, .string ⟨x.note.toArray⟩, .int .i64 0])
    have D2 := hHd (D1.out.kp ((Kp.refl (fun _ => False) w1).alloc (.cells #[.int .u64 x.g, .int .u64 x.f, .int .i64 x.n, .string ⟨x.note.toArray⟩, .int .i64 0] 122)) (fun _ _ e => e))
    have hg7 := E1.out.lt
    go_upto_region 4 with fail
    generalize w1.alloc (.cells #[.int .u64 x.g, .int .u64 x.f, .int .i64 x.n, .string ⟨x.note.toArray⟩, .int .i64 0] 122) = w2 at *
    generalize hgg : w1.heap.size = g7 at *
    clear hgg
    have hgl := B2.out.lt
    go_wp2_with fail
    refine (tell_fine D2.out (HT.out.kp K2.out (fun e => e)) (w.heap.size + 2) w.heap.size E2.out P2.out (by omega) 1).mono ?_
    rintro e w3 ⟨rfl, he, hk⟩
    rw [V1.out]
    rw [I1.out] at he
    have E3 := hHd he
    have K3 := hHd (K2.out.trans_new hk (fun b e => .inl (by omega)))
    have B3 := hHd (B2.out.kp hk (fun e => by omega))
    have R3 := hHd (R2.out.kp hk (fun e => by omega))
    clear he hk
    have hg3 := B3.out.lt
    have E4 := hHd (E3.out.alloc (.cells #[.int .u64 0, .int .u64 0, .int .i64 0, .string ⟨#[]⟩, .int .i64 0] 122))
    have K4 := hHd (K3.out.alloc (.cells #[.int .u64 0, .int .u64 0, .int .i64 0, .string ⟨#[]⟩, .int .i64 0] 122))
    have R4 := hHd (R3.out.alloc (.cells #[.int .u64 0, .int .u64 0, .int .i64 0, .string ⟨#[]⟩, .int .i64 0] 122))
    have B4 := hHd (B3.out.alloc (.cells #[.int .u64 0, .int .u64 0, .int .i64 0, .string ⟨#[]⟩, .int .i64 0] 122))
    have C4 := hHd (Box.new w3 122 #[.int .u64 0, .int .u64 0, .int .i64 0, .string ⟨#[]⟩, .int .i64 0])
    go_upto_region 5 with fail
    generalize w3.alloc (.cells #[.int .u64 0, .int .u64 0, .int .i64 0, .string ⟨#[]⟩, .int .i64 0] 122) = w4 at *
    generalize hgg : w3.heap.size = g9 at *
    clear hgg
    have b0 := B4.out.cell 0
    have c0 := C4.out.cell 0
    simp at b0 c0
    go_wp2_with fail
    clear b0 c0
    have BX := hHd B4.out
    have EX := hHd E4.out
    have RX := hHd R4.out
    have KX := hHd K4.out
    refine wp_region_held_drew (S := fun v => v.cell? ⟨g7, 0, none⟩ = some (.int .u64 x.g) /\ v.cell? ⟨g7, 1, none⟩ = some (.int .u64 x.f) /\ v.cell? ⟨g7, 2, none⟩ = some (.int .i64 x.n) /\ v.cell? ⟨g7, 3, none⟩ = some (.string ⟨x.note.toArray⟩) /\ v.cell? ⟨g7, 4, none⟩ = some (.int .i64 0) /\ v.cell? ⟨w.heap.size + 2, 0, none⟩ = some (.int .i64 0)) (by kernel_rfl) (⟨(BX.out.cell 0), (BX.out.cell 1), (BX.out.cell 2), (BX.out.cell 3), (BX.out.cell 4), EX.out.cell 0⟩) (fun hHeld => ?_)
    refine tk 0 (h := ?_)
    refine tk 1 (h := ?_)
    refine tk 2 (h := ?_)
    refine rd 3 (h := fun K hK => ?_)
    rw [if_pos (by rfl)]
    refine dwp_store_box 122 (.tmp 2) (.tmp 35) rfl (w.heap.size + 1) [.int .u64 x.g, .int .u64 x.f, .int .i64 x.n, .string ⟨x.note.toArray⟩, .int .i64 0] rfl rfl (RX.out.drew) rfl info_head (hcs_one x 0) ?_
    intro W hb hk
    refine hK.out _ _ (⟨((BX.out.drew.kp hk (fun e => by omega)).cell 0), ((BX.out.drew.kp hk (fun e => by omega)).cell 1), ((BX.out.drew.kp hk (fun e => by omega)).cell 2), ((BX.out.drew.kp hk (fun e => by omega)).cell 3), ((BX.out.drew.kp hk (fun e => by omega)).cell 4), (EX.out.drew.kp hk (fun e => by omega)).cell 0⟩) (fun hHeld4 => ?_)
    clear hK K
    try simp only [Act.put]
    refine tk 4 (h := ?_)
    refine tk 5 (h := ?_)
    refine wpAnyH_done (by kernel_rfl) ?_ _
    go_wp2_with fail
    have KF : Kp (fun _ => False) w W := KX.out.drew.trans_new hk (fun b e => .inl (by omega))
    rw [HV.out]
    refine bodyPost_ret (v := .tuple #[.agg #[.int .u64 x.g, .int .u64 x.f, .int .i64 x.n, .string ⟨x.note.toArray⟩, .int .i64 0], .bool true, .int .i64 0]) ?_ rfl ⟨rfl, KF⟩
    exact results_three HR.out _ _ (w.heap.size + 1) 122 _ (0, 0) _ rfl hb Tryz.underlying122 rfl info_head
   ·have V1 := hHd (ht1.trans (headV_some hy))
    rw [hx, hy] at hc
    simp only [countS] at hc
    by_cases hlt : x.g < y.g
    ·rw [if_pos hlt] at hc
     have HV := hHd hc
     have hdc : decide (x.g < y.g) = true := by simpa using hlt
     clear ht0 ht1 hc hx hy hlt
     simp only [hcs] at V0 V1 HV
     go_enter Tryz.func85, Tryz.ntmps85
     go_upto_region 2 with fail
     rw [<- HW.out]
     go_wp2_with fail
     refine (tell_fine D0.out (HT.out.kp K0.out (fun e => e)) (w.heap.size + 2) w.heap.size E0.out P0.out (by omega) 0).mono ?_
     rintro e w1 ⟨rfl, he, hk⟩
     rw [V0.out]
     rw [I0.out] at he
     have E1 := hHd he
     have K1 := hHd (K0.out.trans_new (hk.mono (fun _ _ e => e)) (fun b e => .inl (by omega)))
     have P1 := hHd (P0.out.kp hk (fun e => by omega))
     have R1 := hHd (R0.out.kp hk (fun e => by omega))
     have D1 := hHd (DD.out.kp K1.out (fun _ _ e => e))
     clear he hk
     have E2 := hHd (E1.out.alloc (.cells #[.int .u64 x.g, .int .u64 x.f, .int .i64 x.n, .string ⟨x.note.toArray⟩, .int .i64 0] 122))
     have K2 := hHd (K1.out.alloc (.cells #[.int .u64 x.g, .int .u64 x.f, .int .i64 x.n, .string ⟨x.note.toArray⟩, .int .i64 0] 122))
     have P2 := hHd (P1.out.alloc (.cells #[.int .u64 x.g, .int .u64 x.f, .int .i64 x.n, .string ⟨x.note.toArray⟩, .int .i64 0] 122))
     have R2 := hHd (R1.out.alloc (.cells #[.int .u64 x.g, .int .u64 x.f, .int .i64 x.n, .string ⟨x.note.toArray⟩, .int .i64 0] 122))
     have B2 := hHd (Box.new w1 122 #[.int .u64 x.g, .int .u64 x.f, .int .i64 x.n, .string ⟨x.note.toArray⟩, .int .i64 0])
     have D2 := hHd (D1.out.kp ((Kp.refl (fun _ => False) w1).alloc (.cells #[.int .u64 x.g, .int .u64 x.f, .int .i64 x.n, .string ⟨x.note.toArray⟩, .int .i64 0] 122)) (fun _ _ e => e))
     have hg7 := E1.out.lt
     go_upto_region 4 with fail
     generalize w1.alloc (.cells #[.int .u64 x.g, .int .u64 x.f, .int .i64 x.n, .string ⟨x.note.toArray⟩, .int .i64 0] 122) = w2 at *
     generalize hgg : w1.heap.size = g7 at *
     clear hgg
     have hgl := B2.out.lt
     go_wp2_with fail
     refine (tell_fine D2.out (HT.out.kp K2.out (fun e => e)) (w.heap.size + 2) w.heap.size E2.out P2.out (by omega) 1).mono ?_
     rintro e w3 ⟨rfl, he, hk⟩
     rw [V1.out]
     rw [I1.out] at he
     have E3 := hHd he
     have K3 := hHd (K2.out.trans_new hk (fun b e => .inl (by omega)))
     have B3 := hHd (B2.out.kp hk (fun e => by omega))
     have R3 := hHd (R2.out.kp hk (fun e => by omega))
     clear he hk
     have hg3 := B3.out.lt
     have E4 := hHd (E3.out.alloc (.cells #[.int .u64 y.g, .int .u64 y.f, .int .i64 y.n, .string ⟨y.note.toArray⟩, .int .i64 1] 122))
     have K4 := hHd (K3.out.alloc (.cells #[.int .u64 y.g, .int .u64 y.f, .int .i64 y.n, .string ⟨y.note.toArray⟩, .int .i64 1] 122))
     have R4 := hHd (R3.out.alloc (.cells #[.int .u64 y.g, .int .u64 y.f, .int .i64 y.n, .string ⟨y.note.toArray⟩, .int .i64 1] 122))
     have B4 := hHd (B3.out.alloc (.cells #[.int .u64 y.g, .int .u64 y.f, .int .i64 y.n, .string ⟨y.note.toArray⟩, .int .i64 1] 122))
     have C4 := hHd (Box.new w3 122 #[.int .u64 y.g, .int .u64 y.f, .int .i64 y.n, .string ⟨y.note.toArray⟩, .int .i64 1])
     go_upto_region 5 with fail
     generalize w3.alloc (.cells #[.int .u64 y.g, .int .u64 y.f, .int .i64 y.n, .string ⟨y.note.toArray⟩, .int .i64 1] 122) = w4 at *
     generalize hgg : w3.heap.size = g9 at *
     clear hgg
     have b0 := B4.out.cell 0
     have c0 := C4.out.cell 0
     simp at b0 c0
     go_wp2_with (first | (refine wpList_load_mid rfl 122 (.tmp 9) rfl g9 0 rfl [.int .u64 y.g, .int .u64 y.f, .int .i64 y.n, .string ⟨y.note.toArray⟩, .int .i64 1] _ (Box.range' (L := [.int .u64 y.g, .int .u64 y.f, .int .i64 y.n, .string ⟨y.note.toArray⟩, .int .i64 1]) C4.out) Tryz.underlying122 rfl info_head ?_) | (refine wpList_store_box rfl 122 (.tmp 7) (.tmp 34) rfl g7 [.int .u64 y.g, .int .u64 y.f, .int .i64 y.n, .string ⟨y.note.toArray⟩, .int .i64 1] rfl rfl B4.out rfl info_head (hcs_one y 1) ?_; intro w5 hb5 hk5; clear b0 c0) | fail)
     have BX := hHd hb5
     have EX := hHd (E4.out.kp hk5 (fun e => by omega))
     have RX := hHd (R4.out.kp hk5 (fun e => by omega))
     have KX := hHd (K4.out.trans_new hk5 (fun b e => .inl (by omega)))
     clear hb5 hk5
     refine wp_region_held_drew (S := fun v => v.cell? ⟨g7, 0, none⟩ = some (.int .u64 y.g) /\ v.cell? ⟨g7, 1, none⟩ = some (.int .u64 y.f) /\ v.cell? ⟨g7, 2, none⟩ = some (.int .i64 y.n) /\ v.cell? ⟨g7, 3, none⟩ = some (.string ⟨y.note.toArray⟩) /\ v.cell? ⟨g7, 4, none⟩ = some (.int .i64 1) /\ v.cell? ⟨w.heap.size + 2, 0, none⟩ = some (.int .i64 0)) (by kernel_rfl) (⟨(BX.out.cell 0), (BX.out.cell 1), (BX.out.cell 2), (BX.out.cell 3), (BX.out.cell 4), EX.out.cell 0⟩) (fun hHeld => ?_)
     refine tk 0 (h := ?_)
     refine tk 1 (h := ?_)
     refine tk 2 (h := ?_)
     refine rd 3 (h := fun K hK => ?_)
     rw [if_pos (by rfl)]
     refine dwp_store_box 122 (.tmp 2) (.tmp 35) rfl (w.heap.size + 1) [.int .u64 y.g, .int .u64 y.f, .int .i64 y.n, .string ⟨y.note.toArray⟩, .int .i64 1] rfl rfl (RX.out.drew) rfl info_head (hcs_one y 1) ?_
     intro W hb hk
     refine hK.out _ _ (⟨((BX.out.drew.kp hk (fun e => by omega)).cell 0), ((BX.out.drew.kp hk (fun e => by omega)).cell 1), ((BX.out.drew.kp hk (fun e => by omega)).cell 2), ((BX.out.drew.kp hk (fun e => by omega)).cell 3), ((BX.out.drew.kp hk (fun e => by omega)).cell 4), (EX.out.drew.kp hk (fun e => by omega)).cell 0⟩) (fun hHeld5 => ?_)
     clear hK K
     try simp only [Act.put]
     refine tk 4 (h := ?_)
     refine tk 5 (h := ?_)
     refine wpAnyH_done (by kernel_rfl) ?_ _
     go_wp2_with fail
     have KF : Kp (fun _ => False) w W := KX.out.drew.trans_new hk (fun b e => .inl (by omega))
     rw [HV.out]
     refine bodyPost_ret (v := .tuple #[.agg #[.int .u64 y.g, .int .u64 y.f, .int .i64 y.n, .string ⟨y.note.toArray⟩, .int .i64 1], .bool true, .int .i64 0]) ?_ rfl ⟨rfl, KF⟩
     exact results_three HR.out _ _ (w.heap.size + 1) 122 _ (0, 0) _ rfl hb Tryz.underlying122 rfl info_head
    ·rw [if_neg hlt] at hc
     have HV := hHd hc
     have hdc : decide (x.g < y.g) = false := by simpa using hlt
     clear ht0 ht1 hc hx hy hlt
     simp only [hcs] at V0 V1 HV
     go_enter Tryz.func85, Tryz.ntmps85
     go_upto_region 2 with fail
     rw [<- HW.out]
     go_wp2_with fail
     refine (tell_fine D0.out (HT.out.kp K0.out (fun e => e)) (w.heap.size + 2) w.heap.size E0.out P0.out (by omega) 0).mono ?_
     rintro e w1 ⟨rfl, he, hk⟩
     rw [V0.out]
     rw [I0.out] at he
     have E1 := hHd he
     have K1 := hHd (K0.out.trans_new (hk.mono (fun _ _ e => e)) (fun b e => .inl (by omega)))
     have P1 := hHd (P0.out.kp hk (fun e => by omega))
     have R1 := hHd (R0.out.kp hk (fun e => by omega))
     have D1 := hHd (DD.out.kp K1.out (fun _ _ e => e))
     clear he hk
     have E2 := hHd (E1.out.alloc (.cells #[.int .u64 x.g, .int .u64 x.f, .int .i64 x.n, .string ⟨x.note.toArray⟩, .int .i64 0] 122))
     have K2 := hHd (K1.out.alloc (.cells #[.int .u64 x.g, .int .u64 x.f, .int .i64 x.n, .string ⟨x.note.toArray⟩, .int .i64 0] 122))
     have P2 := hHd (P1.out.alloc (.cells #[.int .u64 x.g, .int .u64 x.f, .int .i64 x.n, .string ⟨x.note.toArray⟩, .int .i64 0] 122))
     have R2 := hHd (R1.out.alloc (.cells #[.int .u64 x.g, .int .u64 x.f, .int .i64 x.n, .string ⟨x.note.toArray⟩, .int .i64 0] 122))
     have B2 := hHd (Box.new w1 122 #[.int .u64 x.g, .int .u64 x.f, .int .i64 x.n, .string ⟨x.note.toArray⟩, .int .i64 0])
     have D2 := hHd (D1.out.kp ((Kp.refl (fun _ => False) w1).alloc (.cells #[.int .u64 x.g, .int .u64 x.f, .int .i64 x.n, .string ⟨x.note.toArray⟩, .int .i64 0] 122)) (fun _ _ e => e))
     have hg7 := E1.out.lt
     go_upto_region 4 with fail
     generalize w1.alloc (.cells #[.int .u64 x.g, .int .u64 x.f, .int .i64 x.n, .string ⟨x.note.toArray⟩, .int .i64 0] 122) = w2 at *
     generalize hgg : w1.heap.size = g7 at *
     clear hgg
     have hgl := B2.out.lt
     go_wp2_with fail
     refine (tell_fine D2.out (HT.out.kp K2.out (fun e => e)) (w.heap.size + 2) w.heap.size E2.out P2.out (by omega) 1).mono ?_
     rintro e w3 ⟨rfl, he, hk⟩
     rw [V1.out]
     rw [I1.out] at he
     have E3 := hHd he
     have K3 := hHd (K2.out.trans_new hk (fun b e => .inl (by omega)))
     have B3 := hHd (B2.out.kp hk (fun e => by omega))
     have R3 := hHd (R2.out.kp hk (fun e => by omega))
     clear he hk
     have hg3 := B3.out.lt
     have E4 := hHd (E3.out.alloc (.cells #[.int .u64 y.g, .int .u64 y.f, .int .i64 y.n, .string ⟨y.note.toArray⟩, .int .i64 1] 122))
     have K4 := hHd (K3.out.alloc (.cells #[.int .u64 y.g, .int .u64 y.f, .int .i64 y.n, .string ⟨y.note.toArray⟩, .int .i64 1] 122))
     have R4 := hHd (R3.out.alloc (.cells #[.int .u64 y.g, .int .u64 y.f, .int .i64 y.n, .string ⟨y.note.toArray⟩, .int .i64 1] 122))
     have B4 := hHd (B3.out.alloc (.cells #[.int .u64 y.g, .int .u64 y.f, .int .i64 y.n, .string ⟨y.note.toArray⟩, .int .i64 1] 122))
     have C4 := hHd (Box.new w3 122 #[.int .u64 y.g, .int .u64 y.f, .int .i64 y.n, .string ⟨y.note.toArray⟩, .int .i64 1])
     go_upto_region 5 with fail
     generalize w3.alloc (.cells #[.int .u64 y.g, .int .u64 y.f, .int .i64 y.n, .string ⟨y.note.toArray⟩, .int .i64 1] 122) = w4 at *
     generalize hgg : w3.heap.size = g9 at *
     clear hgg
     have b0 := B4.out.cell 0
     have c0 := C4.out.cell 0
     simp at b0 c0
     go_wp2_with fail
     clear b0 c0
     have BX := hHd B4.out
     have EX := hHd E4.out
     have RX := hHd R4.out
     have KX := hHd K4.out
     refine wp_region_held_drew (S := fun v => v.cell? ⟨g7, 0, none⟩ = some (.int .u64 x.g) /\ v.cell? ⟨g7, 1, none⟩ = some (.int .u64 x.f) /\ v.cell? ⟨g7, 2, none⟩ = some (.int .i64 x.n) /\ v.cell? ⟨g7, 3, none⟩ = some (.string ⟨x.note.toArray⟩) /\ v.cell? ⟨g7, 4, none⟩ = some (.int .i64 0) /\ v.cell? ⟨w.heap.size + 2, 0, none⟩ = some (.int .i64 0)) (by kernel_rfl) (⟨(BX.out.cell 0), (BX.out.cell 1), (BX.out.cell 2), (BX.out.cell 3), (BX.out.cell 4), EX.out.cell 0⟩) (fun hHeld => ?_)
     refine tk 0 (h := ?_)
     refine tk 1 (h := ?_)
     refine tk 2 (h := ?_)
     refine rd 3 (h := fun K hK => ?_)
     rw [if_pos (by rfl)]
     refine dwp_store_box 122 (.tmp 2) (.tmp 35) rfl (w.heap.size + 1) [.int .u64 x.g, .int .u64 x.f, .int .i64 x.n, .string ⟨x.note.toArray⟩, .int .i64 0] rfl rfl (RX.out.drew) rfl info_head (hcs_one x 0) ?_
     intro W hb hk
     refine hK.out _ _ (⟨((BX.out.drew.kp hk (fun e => by omega)).cell 0), ((BX.out.drew.kp hk (fun e => by omega)).cell 1), ((BX.out.drew.kp hk (fun e => by omega)).cell 2), ((BX.out.drew.kp hk (fun e => by omega)).cell 3), ((BX.out.drew.kp hk (fun e => by omega)).cell 4), (EX.out.drew.kp hk (fun e => by omega)).cell 0⟩) (fun hHeld6 => ?_)
     clear hK K
     try simp only [Act.put]
     refine tk 4 (h := ?_)
     refine tk 5 (h := ?_)
     refine wpAnyH_done (by kernel_rfl) ?_ _
     go_wp2_with fail
     have KF : Kp (fun _ => False) w W := KX.out.drew.trans_new hk (fun b e => .inl (by omega))
     rw [HV.out]
     refine bodyPost_ret (v := .tuple #[.agg #[.int .u64 x.g, .int .u64 x.f, .int .i64 x.n, .string ⟨x.note.toArray⟩, .int .i64 0], .bool true, .int .i64 0]) ?_ rfl ⟨rfl, KF⟩
     exact results_three HR.out _ _ (w.heap.size + 1) 122 _ (0, 0) _ rfl hb Tryz.underlying122 rfl info_head
end
end Go.Proofs.YtepaeliamhjgiaaGreatDoor
