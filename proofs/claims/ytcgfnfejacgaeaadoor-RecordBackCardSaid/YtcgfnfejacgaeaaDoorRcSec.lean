/- What the sector of a head is. Conditions: the table of half bytes reads as the program's text lays it; numbers that go into their bytes. -/
import Derived.Test.YtcgfnfejacgaeaaDoorRcPut
import Derived.Test.YtcgfnfejacgaeaaDoorShelf
namespace Go.Proofs.YtcgfnfejacgaeaaDoor
open Go.RowKit

theorem repeat_zero' (n : Nat) : Go.Lib.repeatL [(0 : UInt8)] n = List.replicate n 0 := by
  induction n with
  | zero => rfl
  | succ n ih => first | (rw [Go.Lib.repeatL, ih]; rfl) | (simp [Go.Lib.repeatL, ih, List.replicate_succ])
theorem sum_n (A : Option Addr) (l : List UInt8) (n c : Nat) (w : World) (hn : l.length = n) (hl : n ≤ c) (hm : c ≤ maxLen) (hr : Rd w A l) (ht : Tbl w) :
    Calls Tryd.prog 13 #[.slice A n c] w fun e w' => e = .returned (.int .u32 ((crcN l : Nat) : Int)) ∧ w = w' := by
  subst hn
  exact sum_any A l c w hl hm hr ht
/-- A head's cells. -/
def hcs (h : Hd) : List Value := [.int .i64 h.box, .int .i64 h.used, .int .u32 h.sum]
def SecEnd (h : Hd) (w : World) (e : Ending) (w' : World) : Prop := ∃ A c, e = .returned (.slice A 512 c) ∧ 512 ≤ c ∧ c ≤ maxLen ∧ Rd w' A (secR h) ∧ (∀ a, A = some a → w.heap.size ≤ a.block) ∧ Kp (fun _ => False) w w'
set_option maxRecDepth 100000 in
set_option maxHeartbeats 4000000 in
theorem sector_any (h : Hd) (w : World) (ho : h.Ok) (ht : Tbl w) :
    Calls Tryd.prog 16 #[.agg (hcs h).toArray] w (SecEnd h w) := by
  obtain ⟨b, u, s⟩ := h
  obtain ⟨hb, hu, hs⟩ := ho
  simp only at hb hu hs
  have HT := Lib.hid ht
  have w1b : IntKind.u64.wrap (b : Int) = (b : Int) := IntWalk.u64_in _ (by omega)
  have w1u : IntKind.u64.wrap (u : Int) = (u : Int) := IntWalk.u64_in _ (by omega)
  have w1s : IntKind.u64.wrap (s : Int) = (s : Int) := IntWalk.u64_in _ (by omega)
  have HE : Hid (∀ e w', (∃ A c, e = .returned (.slice A 512 c) ∧ 512 ≤ c ∧ c ≤ maxLen ∧ Rd w' A (hdB ⟨b, u, s⟩ ++ beN 4 (crcN (hdB ⟨b, u, s⟩))) ∧ (∀ a, A = some a → w.heap.size ≤ a.block) ∧ Kp (fun _ => False) w w') → SecEnd ⟨b, u, s⟩ w e w') := Lib.hid fun _ _ h => h
  obtain ⟨W, hW, b0, k0⟩ : ∃ W, W = w.alloc (.cells (hcs ⟨b, u, s⟩).toArray 32) ∧ Box W w.heap.size 32 (hcs ⟨b, u, s⟩).toArray ∧ Kp (fun _ => False) w W := ⟨_, rfl, Box.new w _ _, (Kp.refl _ w).alloc _⟩
  have HW := Lib.hid hW
  have B0 := Lib.hid b0
  have K0 := Lib.hid k0
  have HB := Lib.hid hb
  have HU := Lib.hid hu
  have HS := Lib.hid hs
  clear hW b0 k0 ht
  go_enter Tryd.func16, Tryd.ntmps16
  go_upto_region 1 with fail
  rw [← HW.out]
  refine wp_region_held_drew (S := fun v => v.cell? ⟨w.heap.size, 0, none⟩ = some (.int .i64 b) ∧ v.cell? ⟨w.heap.size, 1, none⟩ = some (.int .i64 u) ∧ v.cell? ⟨w.heap.size, 2, none⟩ = some (.int .u32 s)) (by kernel_rfl) (⟨B0.out.cell 0, B0.out.cell 1, B0.out.cell 2⟩) (fun hHeld => ?_)
  refine tk 2 (h := ?_)
  refine tk 3 (h := ?_)
  refine tk 4 (h := ?_)
  refine tk 6 (h := ?_)
  refine tk 7 (h := ?_)
  refine tk 8 (h := ?_)
  refine tk 10 (h := ?_)
  refine tk 11 (h := ?_)
  refine tk 12 (h := ?_)
  refine rd 0 (h := fun K hK => ?_)
  go_simp
  refine (pu_new (w := w) (v := W.drew) B0.out.drew K0.out.drew).mono ?_
  rintro e w2 ⟨p, rfl, hu⟩
  have U2 := Lib.hid hu
  clear hu
  go_wp2_with fail
  refine hK.out _ _ (⟨U2.out.box.cell 0, U2.out.box.cell 1, U2.out.box.cell 2⟩) (fun hHeld6 => ?_)
  clear hK K
  try simp only [Act.put, List.setIfInBounds_toArray, List.set_cons_zero, List.set_cons_succ]
  refine rd 1 (h := fun K hK => ?_)
  go_simp
  refine (U2.out.text ⟨#[66, 79, 88, 49]⟩ (by decide) (by decide)).mono ?_
  rintro e w3 ⟨rfl, hu⟩
  have U3 := Lib.hid hu
  clear hu
  go_wp2_with fail
  refine hK.out _ _ (⟨U3.out.box.cell 0, U3.out.box.cell 1, U3.out.box.cell 2⟩) (fun hHeld7 => ?_)
  clear hK K
  try simp only [Act.put, List.setIfInBounds_toArray, List.set_cons_zero, List.set_cons_succ]
  refine rd 5 (h := fun K hK => ?_)
  go_simp
  refine (U3.out.put2 b HB.out (by decide)).mono ?_
  rintro e w4 ⟨rfl, hu⟩
  have U4 := Lib.hid hu
  clear hu
  go_wp2_with fail
  refine hK.out _ _ (⟨U4.out.box.cell 0, U4.out.box.cell 1, U4.out.box.cell 2⟩) (fun hHeld8 => ?_)
  clear hK K
  try simp only [Act.put, List.setIfInBounds_toArray, List.set_cons_zero, List.set_cons_succ]
  refine rd 9 (h := fun K hK => ?_)
  go_simp
  refine (U4.out.put2 u HU.out (by simp [beN_length, byt])).mono ?_
  rintro e w5 ⟨rfl, hu⟩
  have U5 := Lib.hid hu
  clear hu
  go_wp2_with fail
  refine hK.out _ _ (⟨U5.out.box.cell 0, U5.out.box.cell 1, U5.out.box.cell 2⟩) (fun hHeld9 => ?_)
  clear hK K
  try simp only [Act.put, List.setIfInBounds_toArray, List.set_cons_zero, List.set_cons_succ]
  refine rd 13 (h := fun K hK => ?_)
  go_simp
  refine (U5.out.put4 s HS.out (by simp [beN_length, byt])).mono ?_
  rintro e w6 ⟨rfl, hu⟩
  have U6 := Lib.hid hu
  clear hu
  go_wp2_with fail
  refine hK.out _ _ (⟨U6.out.box.cell 0, U6.out.box.cell 1, U6.out.box.cell 2⟩) (fun hHeld10 => ?_)
  clear hK K
  try simp only [Act.put, List.setIfInBounds_toArray, List.set_cons_zero, List.set_cons_succ]
  refine tk 14 (h := ?_)
  refine wpAnyH_done (by kernel_rfl) ?_ _
  clear w1b w1u w1s hHeld hb hu hs
  have V : Hid (Pu w 32 (hcs ⟨b, u, s⟩).toArray w6 p (hdW ⟨b, u, s⟩)) := U6
  obtain ⟨HL, hHL⟩ : ∃ L, L = hdW ⟨b, u, s⟩ := ⟨_, rfl⟩
  have HHL := Lib.hid hHL
  rw [← hHL] at V
  have HLN : Hid (HL.length = 12) := Lib.hid (by rw [hHL]; exact hdW_len _)
  clear U6 hHL
  go_wp2_with fail
  refine (V.out.bytes 12 HLN.out (by decide)).mono ?_
  rintro e w7 ⟨A7, c7, rfl, h71, h72, hr, ha, hu, hk⟩
  have U7 := Lib.hid hu
  clear hu hr ha hk h71 h72
  go_wp2_with fail
  refine (Tryd.strings_Repeat ⟨#[0]⟩ 496 w7 (by omega) (by rw [show (⟨#[0]⟩ : ByteArray).size = 1 from rfl, Nat.one_mul]; omega)).mono ?_
  rintro e w8 ⟨rfl, hbl⟩
  have hk := (Kp.of_below hbl).fresh (fun _ => False)
  rw [show (⟨#[0]⟩ : ByteArray).data.toList = [0] from rfl, repeat_zero']
  have U8 := Lib.hid (U7.out.still hk)
  obtain ⟨z, hz⟩ : ∃ z : List UInt8, z = List.replicate 496 0 := ⟨_, rfl⟩
  rw [← hz]
  have HZ := Lib.hid hz
  have HZL : Hid (z.length = 496) := Lib.hid (by rw [hz]; exact List.length_replicate)
  clear hk hbl hz
  go_wp2_with fail
  refine (U8.out.text ⟨z.toArray⟩ (by show z.toArray.size ≤ 100000; have := HZL.out; simp; omega) (by have := HLN.out; omega)).mono ?_
  rintro e w9 ⟨rfl, hu⟩
  rw [byt_mk] at hu
  have U9 := Lib.hid hu
  clear hu
  go_wp2_with fail
  refine (U9.out.bytes 508 (by have := HLN.out; have := HZL.out; simp; omega) (by decide)).mono ?_
  rintro e w10 ⟨A10, c10, rfl, h101, h102, hr, ha, hu, hk⟩
  obtain ⟨L2, hL2⟩ : ∃ L, L = HL ++ z := ⟨_, rfl⟩
  rw [← hL2] at hr hu
  have HL2 : Hid (L2 = hdB ⟨b, u, s⟩) := Lib.hid (by rw [hL2, HHL.out, HZ.out]; rfl)
  have HL2N : Hid (L2.length = 508) := Lib.hid (by rw [HL2.out]; exact hdB_len _)
  have U10 := Lib.hid hu
  have HR10 := Lib.hid hr
  have h508 : 508 ≤ c10 := h101
  have T10 := Lib.hid (HT.out.still U10.out.kp)
  clear hu hr ha hk hL2
  go_wp2_with fail
  refine (sum_n A10 L2 508 c10 w10 HL2N.out h508 h102 HR10.out T10.out).mono ?_
  rintro e w11 ⟨rfl, rfl⟩
  obtain ⟨cr, hcr⟩ : ∃ cr, cr = crcN L2 := ⟨_, rfl⟩
  have hcrl : cr < 4294967296 := by rw [hcr]; exact crcN_lt _
  rw [← hcr]
  have HCR := Lib.hid hcr
  have w1c : IntKind.u64.wrap (cr : Int) = (cr : Int) := IntWalk.u64_in _ (by omega)
  clear hcr h101 h508
  go_wp2_with fail
  refine (U10.out.put4 cr hcrl (by have := HL2N.out; omega)).mono ?_
  rintro e w12 ⟨rfl, hu⟩
  have U12 := Lib.hid hu
  clear hu
  go_wp2_with fail
  refine (U12.out.bytes 512 (by have := HL2N.out; simp [beN_length]; omega) (by decide)).mono ?_
  rintro e w13 ⟨A13, c13, rfl, h131, h132, hr, ha, hu, hk⟩
  have U13 := Lib.hid hu
  have HR13 : Hid (Rd w13 A13 (hdB ⟨b, u, s⟩ ++ beN 4 (crcN (hdB ⟨b, u, s⟩)))) := Lib.hid (by rw [← HL2.out, ← HCR.out]; exact hr)
  have HA13 : Hid (∀ a, A13 = some a → w.heap.size ≤ a.block) := Lib.hid fun a e => Nat.le_trans U12.out.kp.size (ha a e)
  have H1 := Lib.hid h131
  have H2 := Lib.hid h132
  clear hu hr ha hk h131 h132 w1c hcrl
  go_wp2_with fail
  go_ret
  exact HE.out _ _ ⟨A13, c13, rfl, H1.out, H2.out, HR13.out, HA13.out, U13.out.kp⟩
end Go.Proofs.YtcgfnfejacgaeaaDoor
