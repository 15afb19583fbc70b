/- The document's own sector of a sheet. Conditions: a number of 64 bits, at most 497 bytes. -/
import Derived.Test.YtfcljcikajaedaaGreatDoorMg3
import Derived.Test.YtfcljcikajaedaaGreatDoorMg5
import Derived.Test.YtfcljcikajaedaaGreatDoorMg25
import Derived.Test.YtfcljcikajaedaaGreatDoorMg2
import Derived.Deep.RegionHeld
import Derived.Test.YtfcljcikajaedaaGreatDoorMg15
namespace Go.Proofs.YtfcljcikajaedaaGreatDoor
open Go.RowKit

theorem add_str {P : Program} (a b c : List UInt8) (w : World) (h : a ++ b = c) (hs : a.length + b.length ≤ 100000) : (Op.stringOp .add ⟨a.toArray⟩ ⟨b.toArray⟩).run P w = .ok (.string ⟨c.toArray⟩) w := by
  rw [run_string_add_sum w ⟨a.toArray⟩ ⟨b.toArray⟩ (by show a.toArray.size + b.toArray.size ≤ _; simp; omega), text_cat, h]

set_option maxRecDepth 100000 in
set_option maxHeartbeats 4000000 in
theorem rput_any (q : Nat) (b : Bool) (tx : List UInt8) (w : World) (hq : q < 18446744073709551616) (hs : tx.length ≤ 497) :
    Calls Tryz.prog 52 #[.agg #[.int .u64 q, .bool b, .string ⟨tx.toArray⟩]] w fun e w' => e = .returned (.string ⟨(secL q b tx).toArray⟩) ∧ Kp (fun _ => False) w w' := by
  have hw1 : IntKind.u64.wrap (tx.length : Int) = tx.length := IntWalk.u64_in _ (by omega)
  obtain ⟨c, hc⟩ : ∃ c : Nat, tx.length + c = 497 := ⟨497 - tx.length, by omega⟩
  cases b
  · have B0 := Lib.hid (Box.new w 102 #[.int .u64 q, .bool false, .string ⟨tx.toArray⟩])
    have K0 := Lib.hid ((Kp.refl (fun _ => False) w).alloc (.cells #[.int .u64 q, .bool false, .string ⟨tx.toArray⟩] 102))
    go_enter Tryz.func52, Tryz.ntmps52
    go_upto_region 4 with fail
    generalize w.alloc (.cells #[.int .u64 q, .bool false, .string ⟨tx.toArray⟩] 102) = w0 at *
    refine wp_region_held_drew (S := fun v => v.cell? ⟨w.heap.size, 0, none⟩ = some (.int .u64 q) ∧ v.cell? ⟨w.heap.size, 1, none⟩ = some (.bool false) ∧ v.cell? ⟨w.heap.size, 2, none⟩ = some (.string ⟨tx.toArray⟩)) (by kernel_rfl) (⟨B0.out.cell 0, B0.out.cell 1, B0.out.cell 2⟩) (fun hHeld => ?_)
    refine tk 0 (h := ?_)
    refine tk 1 (h := ?_)
    refine tk 3 (h := ?_)
    refine tk 6 (h := ?_)
    refine tk 7 (h := ?_)
    refine tk 8 (h := ?_)
    refine tk 9 (h := ?_)
    refine tk 12 (h := ?_)
    refine tk 13 (h := ?_)
    refine rd 2 (h := fun K hK => ?_)
    go_simp
    have hcall := numS_any 8 q w0.drew (by decide) hq
    try rw [show ((8 : Nat) : Int) = 8 from rfl] at hcall
    try rw [show ((1 : Nat) : Int) = 1 from rfl] at hcall
    refine hcall.mono ?_
    clear hcall
    rintro e w1 ⟨rfl, hk⟩
    have B1 := Lib.hid ((B0.out.drew).kp hk (fun e => e))
    have K1 := Lib.hid ((K0.out.drew).trans hk)
    obtain ⟨x1, hx1⟩ : ∃ x, beN 8 q = x := ⟨_, rfl⟩
    rw [hx1]
    have HX1 := Lib.hid hx1
    clear hk hx1
    go_wp2_with fail
    refine hK.out _ _ (⟨B1.out.cell 0, B1.out.cell 1, B1.out.cell 2⟩) (fun hHeld1 => ?_)
    clear hK K
    try simp only [Act.put, List.setIfInBounds_toArray, List.set_cons_zero, List.set_cons_succ]
    refine rd 4 (h := fun K hK => ?_)
    go_simp
    have hcall := numS_any 1 1 w1 (by decide) (by decide)
    try rw [show ((1 : Nat) : Int) = 1 from rfl] at hcall
    try rw [show ((1 : Nat) : Int) = 1 from rfl] at hcall
    refine hcall.mono ?_
    clear hcall
    rintro e w2 ⟨rfl, hk⟩
    have B2 := Lib.hid (B1.out.kp hk (fun e => e))
    have K2 := Lib.hid (K1.out.trans hk)
    obtain ⟨x2, hx2⟩ : ∃ x, beN 1 1 = x := ⟨_, rfl⟩
    rw [hx2]
    have HX2 := Lib.hid hx2
    clear hk hx2
    go_wp2_with fail
    refine hK.out _ _ (⟨B2.out.cell 0, B2.out.cell 1, B2.out.cell 2⟩) (fun hHeld2 => ?_)
    clear hK K
    try simp only [Act.put, List.setIfInBounds_toArray, List.set_cons_zero, List.set_cons_succ]
    have l1 : x1.length = 8 := by rw [← HX1.out]; exact beN_length _ _
    have l2 : x2.length = 1 := by rw [← HX2.out]; exact beN_length _ _
    obtain ⟨x12, h12⟩ : ∃ x, x1 ++ x2 = x := ⟨_, rfl⟩
    have l12 : x12.length = 9 := by rw [← h12, List.length_append, l1, l2]
    have hadd1 := fun w => add_str (P := Tryz.prog) x1 x2 x12 w h12 (by omega)
    have H12 := Lib.hid h12
    have L12 := Lib.hid l12
    clear l1 l2 l12 h12
    refine tk 5 (h := ?_)
    refine rd 10 (h := fun K hK => ?_)
    go_simp
    have hcall := numS_any 2 tx.length w2 (by decide) (by omega)
    try rw [show ((2 : Nat) : Int) = 2 from rfl] at hcall
    try rw [show ((1 : Nat) : Int) = 1 from rfl] at hcall
    refine hcall.mono ?_
    clear hcall
    rintro e w3 ⟨rfl, hk⟩
    have B3 := Lib.hid (B2.out.kp hk (fun e => e))
    have K3 := Lib.hid (K2.out.trans hk)
    obtain ⟨x3, hx3⟩ : ∃ x, beN 2 tx.length = x := ⟨_, rfl⟩
    rw [hx3]
    have HX3 := Lib.hid hx3
    clear hk hx3
    go_wp2_with fail
    refine hK.out _ _ (⟨B3.out.cell 0, B3.out.cell 1, B3.out.cell 2⟩) (fun hHeld3 => ?_)
    clear hK K
    try simp only [Act.put, List.setIfInBounds_toArray, List.set_cons_zero, List.set_cons_succ]
    have l3 : x3.length = 2 := by rw [← HX3.out]; exact beN_length _ _
    have l12 := L12.out
    obtain ⟨x13, h13⟩ : ∃ x, x12 ++ x3 = x := ⟨_, rfl⟩
    obtain ⟨x14, h14⟩ : ∃ x, x13 ++ tx = x := ⟨_, rfl⟩
    have l13 : x13.length = 11 := by rw [← h13, List.length_append, l12, l3]
    have l14 : x14.length = 11 + tx.length := by rw [← h14, List.length_append, l13]
    have hadd2 := fun w => add_str (P := Tryz.prog) x12 x3 x13 w h13 (by omega)
    have hadd3 := fun w => add_str (P := Tryz.prog) x13 tx x14 w h14 (by omega)
    have H13 := Lib.hid h13
    have H14 := Lib.hid h14
    have L14 := Lib.hid l14
    clear l3 l12 l13 l14 h13 h14
    refine tk 11 (h := ?_)
    refine tk 14 (h := ?_)
    refine tk 15 (h := ?_)
    refine wpAnyH_done (by kernel_rfl) ?_ _
    clear hadd1 hadd2 hadd3
    have HBL := Lib.hid (show x14 ++ List.replicate (497 - tx.length) 0 = bodyL q false tx by rw [← H14.out, ← H13.out, ← H12.out, ← HX1.out, ← HX2.out, ← HX3.out]; rfl)
    clear H12 H13 H14 HX1 HX2 HX3 B0 B1 B2 B3 K0 K1 K2
    go_wp2_with fail
    go_loopw [4] (fun s4 wr => ∃ j : Nat, j ≤ c ∧ s4 = .string ⟨(x14 ++ List.replicate j 0).toArray⟩ ∧ Kp (fun _ => False) w wr) (fun s4 _ => 508 - strLen s4)
    case atStart => exact ⟨0, Nat.zero_le _, by simp, K3.out⟩
    case round =>
      obtain ⟨j, hj, rfl, hk⟩ := hrel
      have KW := Lib.hid hk
      clear hk
      obtain ⟨y, hy⟩ : ∃ y, x14 ++ List.replicate j 0 = y := ⟨_, rfl⟩
      have hyl : y.length = 11 + tx.length + j := by rw [← hy, List.length_append, L14.out, List.length_replicate]
      by_cases hlt : j < c
      · have hd : decide ((y.length : Int) < 508) = true := by simp; omega
        obtain ⟨z, hz⟩ : ∃ z, y ++ [0] = z := ⟨_, rfl⟩
        have hadd := fun w => add_str (P := Tryz.prog) y [0] z w hz (by simp; omega)
        have hzl : z.length = y.length + 1 := by rw [← hz]; simp
        have hzz : z = x14 ++ List.replicate (j + 1) 0 := by rw [← hz, ← hy, List.replicate_succ', List.append_assoc]
        have HZ := Lib.hid hzz
        have HYL := Lib.hid hyl
        have HZL := Lib.hid hzl
        rw [hy]
        have hsz : (⟨y.toArray⟩ : ByteArray).size = y.length := by show y.toArray.size = _; simp
        clear hzz hyl hzl hy hz
        go_wp2_with fail
        go_roundw
        case rel => exact ⟨j + 1, by omega, by rw [HZ.out], KW.out⟩
        case measure =>
          simp only [strLen]
          show 508 - z.toArray.size < 508 - y.toArray.size
          have h1 := HZL.out
          have h2 := HYL.out
          simp
          omega
      · obtain rfl : j = c := by omega
        have hd : decide ((y.length : Int) < 508) = false := by simp; omega
        have hcc : j = 497 - tx.length := by omega
        have hyb : y = bodyL q false tx := by rw [← hy, ← HBL.out, hcc]
        have hyl8 : y.length = 508 := by omega
        have HYB := Lib.hid hyb
        have HYL := Lib.hid hyl8
        rw [hy]
        have hsz : (⟨y.toArray⟩ : ByteArray).size = y.length := by show y.toArray.size = _; simp
        clear hyl hy hyb hcc hyl8
        go_wp2_with fail
        refine (ref_any ⟨y.toArray⟩ wr (by rw [hsz, HYL.out]; decide)).mono ?_
        rintro e w5 ⟨rfl, rfl⟩
        have hcl := crcN_lt y
        rw [show (⟨y.toArray⟩ : ByteArray).data.toList = y from by simp]
        obtain ⟨m, hm⟩ : ∃ m, crcN y = m := ⟨_, rfl⟩
        rw [hm] at hcl ⊢
        have HM := Lib.hid hm
        clear hm
        have hrd : Rd (wr.alloc (.cells #[.int .u8 ((m : Int) % 256), .int .u8 ((m : Int) / 256 % 256), .int .u8 ((m : Int) / 65536 % 256), .int .u8 ((m : Int) / 16777216)] 5)) (some ⟨wr.heap.size, 0, none⟩) (le4 m) := by
          refine .inr ⟨_, 0, rfl, fun j u hu => ?_⟩
          rw [(Box.new wr _ _).cell]
          rcases j with _ | _ | _ | _ | j <;> simp [le4] at hu ⊢ <;> subst hu <;> simp
          omega
        have hcv := hrd.text (P := Tryz.prog) 31 9 5 4 Tryz.underlying31 Tryz.underlying5 Tryz.underlying9
        rw [show (le4 m).length = 4 from rfl] at hcv
        have hl4 : (le4 m).length = 4 := rfl
        have HL4 := Lib.hid hl4
        obtain ⟨l4, hl4e⟩ : ∃ l4, le4 m = l4 := ⟨_, rfl⟩
        rw [hl4e] at hcv HL4
        obtain ⟨z, hz⟩ : ∃ z, y ++ l4 = z := ⟨_, rfl⟩
        have hadd := fun w => add_str (P := Tryz.prog) y l4 z w hz (by rw [HYL.out, HL4.out]; decide)
        have hfin : z = secL q false tx := by rw [← hz, ← hl4e, ← HM.out, HYB.out]; rfl
        have HF := Lib.hid hfin
        clear hrd hfin hl4 hl4e hz
        go_wp2_with fail
        go_ret
        rw [← HF.out]
        exact ⟨rfl, KW.out.alloc _⟩
  · have B0 := Lib.hid (Box.new w 102 #[.int .u64 q, .bool true, .string ⟨tx.toArray⟩])
    have K0 := Lib.hid ((Kp.refl (fun _ => False) w).alloc (.cells #[.int .u64 q, .bool true, .string ⟨tx.toArray⟩] 102))
    go_enter Tryz.func52, Tryz.ntmps52
    go_upto_region 4 with fail
    generalize w.alloc (.cells #[.int .u64 q, .bool true, .string ⟨tx.toArray⟩] 102) = w0 at *
    refine wp_region_held_drew (S := fun v => v.cell? ⟨w.heap.size, 0, none⟩ = some (.int .u64 q) ∧ v.cell? ⟨w.heap.size, 1, none⟩ = some (.bool true) ∧ v.cell? ⟨w.heap.size, 2, none⟩ = some (.string ⟨tx.toArray⟩)) (by kernel_rfl) (⟨B0.out.cell 0, B0.out.cell 1, B0.out.cell 2⟩) (fun hHeld => ?_)
    refine tk 0 (h := ?_)
    refine tk 1 (h := ?_)
    refine tk 3 (h := ?_)
    refine tk 6 (h := ?_)
    refine tk 7 (h := ?_)
    refine tk 8 (h := ?_)
    refine tk 9 (h := ?_)
    refine tk 12 (h := ?_)
    refine tk 13 (h := ?_)
    refine rd 2 (h := fun K hK => ?_)
    go_simp
    have hcall := numS_any 8 q w0.drew (by decide) hq
    try rw [show ((8 : Nat) : Int) = 8 from rfl] at hcall
    try rw [show ((2 : Nat) : Int) = 2 from rfl] at hcall
    refine hcall.mono ?_
    clear hcall
    rintro e w1 ⟨rfl, hk⟩
    have B1 := Lib.hid ((B0.out.drew).kp hk (fun e => e))
    have K1 := Lib.hid ((K0.out.drew).trans hk)
    obtain ⟨x1, hx1⟩ : ∃ x, beN 8 q = x := ⟨_, rfl⟩
    rw [hx1]
    have HX1 := Lib.hid hx1
    clear hk hx1
    go_wp2_with fail
    refine hK.out _ _ (⟨B1.out.cell 0, B1.out.cell 1, B1.out.cell 2⟩) (fun hHeld4 => ?_)
    clear hK K
    try simp only [Act.put, List.setIfInBounds_toArray, List.set_cons_zero, List.set_cons_succ]
    refine rd 4 (h := fun K hK => ?_)
    go_simp
    have hcall := numS_any 1 2 w1 (by decide) (by decide)
    try rw [show ((1 : Nat) : Int) = 1 from rfl] at hcall
    try rw [show ((2 : Nat) : Int) = 2 from rfl] at hcall
    refine hcall.mono ?_
    clear hcall
    rintro e w2 ⟨rfl, hk⟩
    have B2 := Lib.hid (B1.out.kp hk (fun e => e))
    have K2 := Lib.hid (K1.out.trans hk)
    obtain ⟨x2, hx2⟩ : ∃ x, beN 1 2 = x := ⟨_, rfl⟩
    rw [hx2]
    have HX2 := Lib.hid hx2
    clear hk hx2
    go_wp2_with fail
    refine hK.out _ _ (⟨B2.out.cell 0, B2.out.cell 1, B2.out.cell 2⟩) (fun hHeld5 => ?_)
    clear hK K
    try simp only [Act.put, List.setIfInBounds_toArray, List.set_cons_zero, List.set_cons_succ]
    have l1 : x1.length = 8 := by rw [← HX1.out]; exact beN_length _ _
    have l2 : x2.length = 1 := by rw [← HX2.out]; exact beN_length _ _
    obtain ⟨x12, h12⟩ : ∃ x, x1 ++ x2 = x := ⟨_, rfl⟩
    have l12 : x12.length = 9 := by rw [← h12, List.length_append, l1, l2]
    have hadd1 := fun w => add_str (P := Tryz.prog) x1 x2 x12 w h12 (by omega)
    have H12 := Lib.hid h12
    have L12 := Lib.hid l12
    clear l1 l2 l12 h12
    refine tk 5 (h := ?_)
    refine rd 10 (h := fun K hK => ?_)
    go_simp
    have hcall := numS_any 2 tx.length w2 (by decide) (by omega)
    try rw [show ((2 : Nat) : Int) = 2 from rfl] at hcall
    try rw [show ((2 : Nat) : Int) = 2 from rfl] at hcall
    refine hcall.mono ?_
    clear hcall
    rintro e w3 ⟨rfl, hk⟩
    have B3 := Lib.hid (B2.out.kp hk (fun e => e))
    have K3 := Lib.hid (K2.out.trans hk)
    obtain ⟨x3, hx3⟩ : ∃ x, beN 2 tx.length = x := ⟨_, rfl⟩
    rw [hx3]
    have HX3 := Lib.hid hx3
    clear hk hx3
    go_wp2_with fail
    refine hK.out _ _ (⟨B3.out.cell 0, B3.out.cell 1, B3.out.cell 2⟩) (fun hHeld6 => ?_)
    clear hK K
    try simp only [Act.put, List.setIfInBounds_toArray, List.set_cons_zero, List.set_cons_succ]
    have l3 : x3.length = 2 := by rw [← HX3.out]; exact beN_length _ _
    have l12 := L12.out
    obtain ⟨x13, h13⟩ : ∃ x, x12 ++ x3 = x := ⟨_, rfl⟩
    obtain ⟨x14, h14⟩ : ∃ x, x13 ++ tx = x := ⟨_, rfl⟩
    have l13 : x13.length = 11 := by rw [← h13, List.length_append, l12, l3]
    have l14 : x14.length = 11 + tx.length := by rw [← h14, List.length_append, l13]
    have hadd2 := fun w => add_str (P := Tryz.prog) x12 x3 x13 w h13 (by omega)
    have hadd3 := fun w => add_str (P := Tryz.prog) x13 tx x14 w h14 (by omega)
    have H13 := Lib.hid h13
    have H14 := Lib.hid h14
    have L14 := Lib.hid l14
    clear l3 l12 l13 l14 h13 h14
    refine tk 11 (h := ?_)
    refine tk 14 (h := ?_)
    refine tk 15 (h := ?_)
    refine wpAnyH_done (by kernel_rfl) ?_ _
    clear hadd1 hadd2 hadd3
    have HBL := Lib.hid (show x14 ++ List.replicate (497 - tx.length) 0 = bodyL q true tx by rw [← H14.out, ← H13.out, ← H12.out, ← HX1.out, ← HX2.out, ← HX3.out]; rfl)
    clear H12 H13 H14 HX1 HX2 HX3 B0 B1 B2 B3 K0 K1 K2
    go_wp2_with fail
    go_loopw [4] (fun s4 wr => ∃ j : Nat, j ≤ c ∧ s4 = .string ⟨(x14 ++ List.replicate j 0).toArray⟩ ∧ Kp (fun _ => False) w wr) (fun s4 _ => 508 - strLen s4)
    case atStart => exact ⟨0, Nat.zero_le _, by simp, K3.out⟩
    case round =>
      obtain ⟨j, hj, rfl, hk⟩ := hrel
      have KW := Lib.hid hk
      clear hk
      obtain ⟨y, hy⟩ : ∃ y, x14 ++ List.replicate j 0 = y := ⟨_, rfl⟩
      have hyl : y.length = 11 + tx.length + j := by rw [← hy, List.length_append, L14.out, List.length_replicate]
      by_cases hlt : j < c
      · have hd : decide ((y.length : Int) < 508) = true := by simp; omega
        obtain ⟨z, hz⟩ : ∃ z, y ++ [0] = z := ⟨_, rfl⟩
        have hadd := fun w => add_str (P := Tryz.prog) y [0] z w hz (by simp; omega)
        have hzl : z.length = y.length + 1 := by rw [← hz]; simp
        have hzz : z = x14 ++ List.replicate (j + 1) 0 := by rw [← hz, ← hy, List.replicate_succ', List.append_assoc]
        have HZ := Lib.hid hzz
        have HYL := Lib.hid hyl
        have HZL := Lib.hid hzl
        rw [hy]
        have hsz : (⟨y.toArray⟩ : ByteArray).size = y.length := by show y.toArray.size = _; simp
        clear hzz hyl hzl hy hz
        go_wp2_with fail
        go_roundw
        case rel => exact ⟨j + 1, by omega, by rw [HZ.out], KW.out⟩
        case measure =>
          simp only [strLen]
          show 508 - z.toArray.size < 508 - y.toArray.size
          have h1 := HZL.out
          have h2 := HYL.out
          simp
          omega
      · obtain rfl : j = c := by omega
        have hd : decide ((y.length : Int) < 508) = false := by simp; omega
        have hcc : j = 497 - tx.length := by omega
        have hyb : y = bodyL q true tx := by rw [← hy, ← HBL.out, hcc]
        have hyl8 : y.length = 508 := by omega
        have HYB := Lib.hid hyb
        have HYL := Lib.hid hyl8
        rw [hy]
        have hsz : (⟨y.toArray⟩ : ByteArray).size = y.length := by show y.toArray.size = _; simp
        clear hyl hy hyb hcc hyl8
        go_wp2_with fail
        refine (ref_any ⟨y.toArray⟩ wr (by rw [hsz, HYL.out]; decide)).mono ?_
        rintro e w5 ⟨rfl, rfl⟩
        have hcl := crcN_lt y
        rw [show (⟨y.toArray⟩ : ByteArray).data.toList = y from by simp]
        obtain ⟨m, hm⟩ : ∃ m, crcN y = m := ⟨_, rfl⟩
        rw [hm] at hcl ⊢
        have HM := Lib.hid hm
        clear hm
        have hrd : Rd (wr.alloc (.cells #[.int .u8 ((m : Int) % 256), .int .u8 ((m : Int) / 256 % 256), .int .u8 ((m : Int) / 65536 % 256), .int .u8 ((m : Int) / 16777216)] 5)) (some ⟨wr.heap.size, 0, none⟩) (le4 m) := by
          refine .inr ⟨_, 0, rfl, fun j u hu => ?_⟩
          rw [(Box.new wr _ _).cell]
          rcases j with _ | _ | _ | _ | j <;> simp [le4] at hu ⊢ <;> subst hu <;> simp
          omega
        have hcv := hrd.text (P := Tryz.prog) 31 9 5 4 Tryz.underlying31 Tryz.underlying5 Tryz.underlying9
        rw [show (le4 m).length = 4 from rfl] at hcv
        have hl4 : (le4 m).length = 4 := rfl
        have HL4 := Lib.hid hl4
        obtain ⟨l4, hl4e⟩ : ∃ l4, le4 m = l4 := ⟨_, rfl⟩
        rw [hl4e] at hcv HL4
        obtain ⟨z, hz⟩ : ∃ z, y ++ l4 = z := ⟨_, rfl⟩
        have hadd := fun w => add_str (P := Tryz.prog) y l4 z w hz (by rw [HYL.out, HL4.out]; decide)
        have hfin : z = secL q true tx := by rw [← hz, ← hl4e, ← HM.out, HYB.out]; rfl
        have HF := Lib.hid hfin
        clear hrd hfin hl4 hl4e hz
        go_wp2_with fail
        go_ret
        rw [← HF.out]
        exact ⟨rfl, KW.out.alloc _⟩
end Go.Proofs.YtfcljcikajaedaaGreatDoor

/- The document's own sector of a head. Conditions: numbers of 64 bits, a note of at most 64 bytes. -/
namespace Go.Proofs.YtfcljcikajaedaaGreatDoor
open Go.RowKit

/-- A head, as the document's words hold it. -/
def hcsR (h : Hd) : Array Value := #[.int .u64 h.g, .int .u64 h.f, .int .i64 h.n, .string ⟨h.note.toArray⟩]
theorem beN_one (n : Nat) (h : n ≤ 64) : beN 1 n = [UInt8.ofNat n] := by
  simp [beN, Nat.mod_eq_of_lt (show n < 256 by omega)]
set_option maxRecDepth 100000 in
set_option maxHeartbeats 4000000 in
theorem hput6_any (h : Hd) (w : World) (hg0 : h.g < 18446744073709551616) (hf0 : h.f < 18446744073709551616) (hn0 : h.n < 65536) (hs0 : h.note.length ≤ 64) :
    Calls Tryz.prog 86 #[.agg (hcsR h)] w fun e w' => e = .returned (.string ⟨(hsec h).toArray⟩) ∧ Kp (fun _ => False) w w' := by
  unfold hcsR
  obtain ⟨hb, hhb⟩ : ∃ b, hbody h = b := ⟨_, rfl⟩
  have HB := Lib.hid (show beN 8 h.g ++ beN 8 h.f ++ beN 2 h.n ++ beN 1 h.note.length ++ h.note ++ List.replicate (489 - h.note.length) 0 = hb by rw [← hhb, beN_one _ hs0]; simp [hbody])
  have HS := Lib.hid (show hsec h = hb ++ beN 4 (crcN hb) by rw [← hhb]; rfl)
  clear hhb
  obtain ⟨hg, hf, hn, tx⟩ := h
  dsimp only at *
  have hg_ := hg0
  have hf_ := hf0
  clear hg0 hf0
  have hwn : IntKind.u64.wrap (hn : Int) = hn := IntWalk.u64_in _ (by omega)
  have hw1 : IntKind.u64.wrap (tx.length : Int) = tx.length := IntWalk.u64_in _ (by omega)
  obtain ⟨c, hc⟩ : ∃ c : Nat, tx.length + c = 489 := ⟨489 - tx.length, by omega⟩
  have B0 := Lib.hid (Box.new w 40 #[.int .u64 hg, .int .u64 hf, .int .i64 hn, .string ⟨tx.toArray⟩])
  have K0 := Lib.hid ((Kp.refl (fun _ => False) w).alloc (.cells #[.int .u64 hg, .int .u64 hf, .int .i64 hn, .string ⟨tx.toArray⟩] 40))
  go_enter Tryz.func86, Tryz.ntmps86
  go_upto_region 1 with fail
  generalize w.alloc (.cells #[.int .u64 hg, .int .u64 hf, .int .i64 hn, .string ⟨tx.toArray⟩] 40) = w0 at *
  refine wp_region_held_drew (S := fun v => v.cell? ⟨w.heap.size, 0, none⟩ = some (.int .u64 hg) ∧ v.cell? ⟨w.heap.size, 1, none⟩ = some (.int .u64 hf) ∧ v.cell? ⟨w.heap.size, 2, none⟩ = some (.int .i64 hn) ∧ v.cell? ⟨w.heap.size, 3, none⟩ = some (.string ⟨tx.toArray⟩)) (by kernel_rfl) (⟨B0.out.cell 0, B0.out.cell 1, B0.out.cell 2, B0.out.cell 3⟩) (fun hHeld => ?_)
  refine tk 0 (h := ?_)
  refine tk 1 (h := ?_)
  refine tk 3 (h := ?_)
  refine tk 4 (h := ?_)
  refine tk 7 (h := ?_)
  refine tk 8 (h := ?_)
  refine tk 9 (h := ?_)
  refine tk 12 (h := ?_)
  refine tk 13 (h := ?_)
  refine tk 14 (h := ?_)
  refine tk 15 (h := ?_)
  refine tk 18 (h := ?_)
  refine tk 19 (h := ?_)
  refine rd 2 (h := fun K hK => ?_)
  go_simp
  have hcall := num6_any 8 hg w0.drew (by decide) hg_
  rw [show ((8 : Nat) : Int) = 8 from rfl] at hcall
  refine hcall.mono ?_
  clear hcall
  rintro e w1 ⟨rfl, hk⟩
  have B1 := Lib.hid ((B0.out.drew).kp hk (fun e => e))
  have K1 := Lib.hid ((K0.out.drew).trans hk)
  obtain ⟨x1, hx1⟩ : ∃ x, beN 8 hg = x := ⟨_, rfl⟩
  rw [hx1]
  have lx1 : x1.length = 8 := by rw [← hx1]; exact beN_length _ _
  have HX1 := Lib.hid hx1
  clear hk hx1
  go_wp2_with fail
  refine hK.out _ _ (⟨B1.out.cell 0, B1.out.cell 1, B1.out.cell 2, B1.out.cell 3⟩) (fun hHeld1 => ?_)
  clear hK K
  try simp only [Act.put, List.setIfInBounds_toArray, List.set_cons_zero, List.set_cons_succ]
  refine rd 5 (h := fun K hK => ?_)
  go_simp
  have hcall := num6_any 8 hf w1 (by decide) hf_
  rw [show ((8 : Nat) : Int) = 8 from rfl] at hcall
  refine hcall.mono ?_
  clear hcall
  rintro e w2 ⟨rfl, hk⟩
  have B2 := Lib.hid (B1.out.kp hk (fun e => e))
  have K2 := Lib.hid (K1.out.trans hk)
  obtain ⟨x2, hx2⟩ : ∃ x, beN 8 hf = x := ⟨_, rfl⟩
  rw [hx2]
  have lx2 : x2.length = 8 := by rw [← hx2]; exact beN_length _ _
  have HX2 := Lib.hid hx2
  clear hk hx2
  go_wp2_with fail
  refine hK.out _ _ (⟨B2.out.cell 0, B2.out.cell 1, B2.out.cell 2, B2.out.cell 3⟩) (fun hHeld2 => ?_)
  clear hK K
  try simp only [Act.put, List.setIfInBounds_toArray, List.set_cons_zero, List.set_cons_succ]
  obtain ⟨x12, hx12⟩ : ∃ x, x1 ++ x2 = x := ⟨_, rfl⟩
  have lx12 : x12.length = 8 + 8 := by rw [← hx12, List.length_append, lx1, lx2]
  have hadd1 := fun w => add_str (P := Tryz.prog) x1 x2 x12 w hx12 (by omega)
  have Hx12 := Lib.hid hx12
  clear hx12
  refine tk 6 (h := ?_)
  refine rd 10 (h := fun K hK => ?_)
  go_simp
  have hcall := num6_any 2 hn w2 (by decide) (by omega)
  rw [show ((2 : Nat) : Int) = 2 from rfl] at hcall
  refine hcall.mono ?_
  clear hcall
  rintro e w3 ⟨rfl, hk⟩
  have B3 := Lib.hid (B2.out.kp hk (fun e => e))
  have K3 := Lib.hid (K2.out.trans hk)
  obtain ⟨x3, hx3⟩ : ∃ x, beN 2 hn = x := ⟨_, rfl⟩
  rw [hx3]
  have lx3 : x3.length = 2 := by rw [← hx3]; exact beN_length _ _
  have HX3 := Lib.hid hx3
  clear hk hx3
  go_wp2_with fail
  refine hK.out _ _ (⟨B3.out.cell 0, B3.out.cell 1, B3.out.cell 2, B3.out.cell 3⟩) (fun hHeld3 => ?_)
  clear hK K
  try simp only [Act.put, List.setIfInBounds_toArray, List.set_cons_zero, List.set_cons_succ]
  obtain ⟨x13, hx13⟩ : ∃ x, x12 ++ x3 = x := ⟨_, rfl⟩
  have lx13 : x13.length = (8 + 8) + 2 := by rw [← hx13, List.length_append, lx12, lx3]
  have hadd2 := fun w => add_str (P := Tryz.prog) x12 x3 x13 w hx13 (by omega)
  have Hx13 := Lib.hid hx13
  clear hx13
  refine tk 11 (h := ?_)
  refine rd 16 (h := fun K hK => ?_)
  go_simp
  have hcall := num6_any 1 tx.length w3 (by decide) (by omega)
  rw [show ((1 : Nat) : Int) = 1 from rfl] at hcall
  refine hcall.mono ?_
  clear hcall
  rintro e w4 ⟨rfl, hk⟩
  have B4 := Lib.hid (B3.out.kp hk (fun e => e))
  have K4 := Lib.hid (K3.out.trans hk)
  obtain ⟨x4, hx4⟩ : ∃ x, beN 1 tx.length = x := ⟨_, rfl⟩
  rw [hx4]
  have lx4 : x4.length = 1 := by rw [← hx4]; exact beN_length _ _
  have HX4 := Lib.hid hx4
  clear hk hx4
  go_wp2_with fail
  refine hK.out _ _ (⟨B4.out.cell 0, B4.out.cell 1, B4.out.cell 2, B4.out.cell 3⟩) (fun hHeld4 => ?_)
  clear hK K
  try simp only [Act.put, List.setIfInBounds_toArray, List.set_cons_zero, List.set_cons_succ]
  obtain ⟨x14, hx14⟩ : ∃ x, x13 ++ x4 = x := ⟨_, rfl⟩
  have lx14 : x14.length = (8 + 8 + 2) + 1 := by rw [← hx14, List.length_append, lx13, lx4]
  have hadd3 := fun w => add_str (P := Tryz.prog) x13 x4 x14 w hx14 (by omega)
  have Hx14 := Lib.hid hx14
  clear hx14
  have ltx : tx.length = tx.length := rfl
  obtain ⟨x15, hx15⟩ : ∃ x, x14 ++ tx = x := ⟨_, rfl⟩
  have lx15 : x15.length = (8 + 8 + 2 + 1) + tx.length := by rw [← hx15, List.length_append, lx14, ltx]
  have hadd4 := fun w => add_str (P := Tryz.prog) x14 tx x15 w hx15 (by omega)
  have Hx15 := Lib.hid hx15
  clear hx15
  refine tk 17 (h := ?_)
  refine tk 20 (h := ?_)
  refine tk 21 (h := ?_)
  refine wpAnyH_done (by kernel_rfl) ?_ _
  clear hadd1 hadd2 hadd3 hadd4
  have LX := Lib.hid lx15
  have HBL := Lib.hid (show x15 ++ List.replicate (489 - tx.length) 0 = hb by rw [← HB.out, HX1.out, HX2.out, HX3.out, HX4.out, Hx12.out, Hx13.out, Hx14.out, Hx15.out])
  clear HX1 HX2 HX3 HX4 Hx12 Hx13 Hx14 Hx15 B0 B1 B2 B3 B4 K0 K1 K2 K3 lx1 lx2 lx3 lx4 lx12 lx13 lx14 lx15 ltx HB
  go_wp2_with fail
  go_loopw [3] (fun s4 wr => ∃ j : Nat, j ≤ c ∧ s4 = .string ⟨(x15 ++ List.replicate j 0).toArray⟩ ∧ Kp (fun _ => False) w wr) (fun s4 _ => 508 - strLen s4)
  case atStart => exact ⟨0, Nat.zero_le _, by simp, K4.out⟩
  case round =>
    obtain ⟨j, hj, rfl, hk⟩ := hrel
    have KW := Lib.hid hk
    clear hk
    obtain ⟨y, hy⟩ : ∃ y, x15 ++ List.replicate j 0 = y := ⟨_, rfl⟩
    have hyl : y.length = 19 + tx.length + j := by rw [← hy, List.length_append, LX.out, List.length_replicate]
    by_cases hlt : j < c
    · have hd : decide ((y.length : Int) < 508) = true := by simp; omega
      obtain ⟨z, hz⟩ : ∃ z, y ++ [0] = z := ⟨_, rfl⟩
      have hadd := fun w => add_str (P := Tryz.prog) y [0] z w hz (by simp; omega)
      have hzl : z.length = y.length + 1 := by rw [← hz]; simp
      have hzz : z = x15 ++ List.replicate (j + 1) 0 := by rw [← hz, ← hy, List.replicate_succ', List.append_assoc]
      have HZ := Lib.hid hzz
      have HYL := Lib.hid hyl
      have HZL := Lib.hid hzl
      rw [hy]
      have hsz : (⟨y.toArray⟩ : ByteArray).size = y.length := by show y.toArray.size = _; simp
      clear hzz hyl hzl hy hz
      go_wp2_with fail
      go_roundw
      case rel => exact ⟨j + 1, by omega, by rw [HZ.out], KW.out⟩
      case measure =>
        simp only [strLen]
        show 508 - z.toArray.size < 508 - y.toArray.size
        have h1 := HZL.out
        have h2 := HYL.out
        simp
        omega
    · obtain rfl : j = c := by omega
      have hd : decide ((y.length : Int) < 508) = false := by simp; omega
      have hcc : j = 489 - tx.length := by omega
      have hyb : y = hb := by rw [← hy, ← HBL.out, hcc]
      have hyl8 : y.length = 508 := by omega
      have HYL := Lib.hid hyl8
      rw [hy]
      have hsz : (⟨y.toArray⟩ : ByteArray).size = y.length := by show y.toArray.size = _; simp
      clear hyl hy hcc hyl8 HBL
      subst hyb
      go_wp2_with fail
      refine (ref_any ⟨y.toArray⟩ wr (by rw [hsz, HYL.out]; decide)).mono ?_
      rintro e w5 ⟨rfl, rfl⟩
      have hcl := crcN_lt y
      rw [show (⟨y.toArray⟩ : ByteArray).data.toList = y from by simp]
      obtain ⟨m, hm⟩ : ∃ m, crcN y = m := ⟨_, rfl⟩
      rw [hm] at hcl ⊢
      have HM := Lib.hid hm
      have hwm : IntKind.u64.wrap (m : Int) = m := IntWalk.u64_in _ (by omega)
      clear hm
      go_wp2_with fail
      have hcall := num6_any 4 m wr (by decide) (by omega)
      rw [show ((4 : Nat) : Int) = 4 from rfl] at hcall
      refine hcall.mono ?_
      clear hcall
      rintro e w6 ⟨rfl, hk⟩
      have KE := Lib.hid (KW.out.trans hk)
      clear hk
      obtain ⟨x5, hx5⟩ : ∃ x, beN 4 m = x := ⟨_, rfl⟩
      have lx5 : x5.length = 4 := by rw [← hx5]; exact beN_length _ _
      rw [hx5]
      obtain ⟨z, hz⟩ : ∃ z, y ++ x5 = z := ⟨_, rfl⟩
      have hadd := fun w => add_str (P := Tryz.prog) y x5 z w hz (by rw [HYL.out, lx5]; decide)
      have HF := Lib.hid (show hsec ⟨hg, hf, hn, tx⟩ = z by rw [HS.out, ← hz, ← hx5, HM.out])
      clear hx5 lx5 hz
      go_wp2_with fail
      go_ret
      exact ⟨by rw [HF.out]; rfl, KE.out⟩
end Go.Proofs.YtfcljcikajaedaaGreatDoor
