/- What sheet.Put answers, as a row of its own. Conditions: the table of half bytes reads as the program's text lays it; a number of 64 bits. -/
import Derived.Test.YtfcljcikajaedaaGreatDoorMg3
import Derived.Test.YtfcljcikajaedaaGreatDoorMg4
import Derived.Test.YtfcljcikajaedaaGreatDoorMg17
namespace Go.Proofs.YtfcljcikajaedaaGreatDoor
open Go.RowKit

set_option maxRecDepth 100000 in
set_option maxHeartbeats 4000000 in
theorem put_own (q : Nat) (b : Bool) (s : ByteArray) (w : World) (hq : q < 18446744073709551616) (hs : s.size ≤ 497) (ht : Tbl w) :
    Calls Tryz.prog 74 #[sv q b s] w fun e w' => ∃ g c, e = .returned (.tuple #[.slice (some ⟨g, 0, none⟩) 512 c, .int .i64 0]) ∧ 512 ≤ c ∧ c ≤ maxLen ∧ w'.ownsRow 0 5 1 (.slice (some ⟨g, 0, none⟩) 512 c) 512 (bcs (secL q b (tb s))) ∧ w.heap.size ≤ g ∧ Kp (fun _ => False) w w' := by
  have hd : decide ((497 : Int) < s.size) = false := by simp; omega
  have hw1 : IntKind.u64.wrap (s.size : Int) = s.size := IntWalk.u64_in _ (by omega)
  obtain ⟨c, hc⟩ : ∃ c : Nat, s.size + c = 497 := ⟨497 - s.size, by omega⟩
  have hsub := Lib.hid (show IntKind.i64.wrap ((497 : Int) - s.size) = (c : Int) by rw [IntWalk.i64_in _ (by omega)]; omega)
  have HT := Lib.hid ht
  clear ht
  cases b
  · have B0 := Lib.hid (Box.new w 120 #[.int .u64 q, .bool false, .string s])
    have K0 := Lib.hid ((Kp.refl (fun _ => False) w).alloc (.cells #[.int .u64 q, .bool false, .string s] 120))
    go_enter Tryz.func74, Tryz.ntmps74
    go_upto_region 6 with fail
    generalize w.alloc (.cells #[.int .u64 q, .bool false, .string s] 120) = w0 at *
    refine wp_region_held_drew (S := fun v => v.cell? ⟨w.heap.size, 0, none⟩ = some (.int .u64 q) ∧ v.cell? ⟨w.heap.size, 1, none⟩ = some (.bool false) ∧ v.cell? ⟨w.heap.size, 2, none⟩ = some (.string s)) (by kernel_rfl) (sh_cells B0.out) (fun hHeld => ?_)
    refine tk 1 (h := ?_)
    refine tk 2 (h := ?_)
    refine tk 4 (h := ?_)
    refine tk 6 (h := ?_)
    refine tk 7 (h := ?_)
    refine tk 8 (h := ?_)
    refine tk 9 (h := ?_)
    refine rd 0 (h := fun K hK => ?_)
    go_simp
    have hlt := B0.out.lt
    refine (new_any (fun k => w.heap.size + 1 ≤ k) w0.drew hlt).mono ?_
    rintro e w1 ⟨rfl, hp, hk⟩
    have P1 := Lib.hid (pk_of hp)
    have B1 := Lib.hid ((B0.out.drew).kp hk (fun e => e))
    have K1 := Lib.hid (K0.out.drew.trans hk)
    generalize Value.pointer (some ⟨w0.drew.heap.size, 0, none⟩) = p at *
    clear hp hk hlt
    go_wp2_with fail
    refine hK.out _ _ (sh_cells B1.out) (fun hHeld1 => ?_)
    clear hK K
    try simp only [Act.put, List.setIfInBounds_toArray, List.set_cons_zero, List.set_cons_succ]
    refine rd 3 (h := fun K hK => ?_)
    go_simp
    have hFN := fnew (w := w) (w' := w1) B1.out.lt
    have hcall := put_fine8 P1.out hFN q hq (by decide)
    try rw [show ((1 : Nat) : Int) = 1 from rfl] at hcall
    refine hcall.mono ?_
    clear hcall
    rintro e w2 ⟨rfl, hp, hk⟩
    have P2 := Lib.hid hp
    have B2 := Lib.hid (B1.out.kp hk (fun e => by omega))
    have K2 := Lib.hid (K1.out.trans_new hk (fun b e => .inl (by omega)))
    clear hp hk hFN
    go_wp2_with fail
    refine hK.out _ _ (sh_cells B2.out) (fun hHeld2 => ?_)
    clear hK K
    try simp only [Act.put, List.setIfInBounds_toArray, List.set_cons_zero, List.set_cons_succ]
    refine rd 5 (h := fun K hK => ?_)
    go_simp
    have hFN := fnew (w := w) (w' := w2) B2.out.lt
    have hcall := put_fine1 P2.out hFN 1 (by decide) (by simp [putS, beN_length])
    try rw [show ((1 : Nat) : Int) = 1 from rfl] at hcall
    refine hcall.mono ?_
    clear hcall
    rintro e w3 ⟨rfl, hp, hk⟩
    have P3 := Lib.hid hp
    have B3 := Lib.hid (B2.out.kp hk (fun e => by omega))
    have K3 := Lib.hid (K2.out.trans_new hk (fun b e => .inl (by omega)))
    clear hp hk hFN
    go_wp2_with fail
    refine hK.out _ _ (sh_cells B3.out) (fun hHeld3 => ?_)
    clear hK K
    try simp only [Act.put, List.setIfInBounds_toArray, List.set_cons_zero, List.set_cons_succ]
    refine rd 10 (h := fun K hK => ?_)
    go_simp
    have hFN := fnew (w := w) (w' := w3) B3.out.lt
    have hcall := put_fine2 P3.out hFN s.size (by omega) (by simp [putS, beN_length])
    try rw [show ((1 : Nat) : Int) = 1 from rfl] at hcall
    refine hcall.mono ?_
    clear hcall
    rintro e w4 ⟨rfl, hp, hk⟩
    have P4 := Lib.hid hp
    have B4 := Lib.hid (B3.out.kp hk (fun e => by omega))
    have K4 := Lib.hid (K3.out.trans_new hk (fun b e => .inl (by omega)))
    clear hp hk hFN
    go_wp2_with fail
    refine hK.out _ _ (sh_cells B4.out) (fun hHeld4 => ?_)
    clear hK K
    try simp only [Act.put, List.setIfInBounds_toArray, List.set_cons_zero, List.set_cons_succ]
    refine tk 11 (h := ?_)
    refine wpAnyH_done (by kernel_rfl) ?_ _
    go_upto_region 7 with fail
    refine wp_region_held_drew (S := fun v => v.cell? ⟨w.heap.size, 0, none⟩ = some (.int .u64 q) ∧ v.cell? ⟨w.heap.size, 1, none⟩ = some (.bool false) ∧ v.cell? ⟨w.heap.size, 2, none⟩ = some (.string s)) (by kernel_rfl) (sh_cells B4.out) (fun hHeld => ?_)
    refine tk 0 (h := ?_)
    refine tk 1 (h := ?_)
    refine tk 2 (h := ?_)
    refine tk 4 (h := ?_)
    refine tk 5 (h := ?_)
    refine tk 6 (h := ?_)
    refine tk 7 (h := ?_)
    refine rd 3 (h := fun K hK => ?_)
    have P5 := Lib.hid (P4.out.still (Kp.refl _ w4).drew)
    have B5 := Lib.hid (B4.out.drew)
    have K5 := Lib.hid (K4.out.drew)
    generalize w4.drew = w5 at *
    go_simp
    have hFN := fnew (w := w) (w' := w5) B5.out.lt
    refine (text_any P5.out hFN s (by rw [put_len11]; omega)).mono ?_
    rintro e w6 ⟨rfl, hp, hk⟩
    have P6 := Lib.hid hp
    have B6 := Lib.hid (B5.out.kp hk (fun e => by omega))
    have K6 := Lib.hid (K5.out.trans_new hk (fun b e => .inl (by omega)))
    clear hp hk hFN
    go_wp2_with fail
    refine hK.out _ _ (sh_cells B6.out) (fun hHeld5 => ?_)
    clear hK K
    try simp only [Act.put, List.setIfInBounds_toArray, List.set_cons_zero, List.set_cons_succ]
    refine rd 8 (h := fun K hK => ?_)
    go_simp
    rw [hsub.out]
    refine (Tryz.strings_Repeat ⟨#[0]⟩ c w6 (by omega) (by rw [show (⟨#[0]⟩ : ByteArray).size = 1 from rfl, Nat.one_mul]; omega)).mono ?_
    rintro e w7 ⟨rfl, hbl⟩
    have hk := (Kp.of_below hbl).fresh (fun _ => False)
    rw [show (⟨#[0]⟩ : ByteArray).data.toList = [0] from rfl, repeat_zero]
    have P7 := Lib.hid (P6.out.still hk)
    have B7 := Lib.hid (B6.out.kp hk (fun e => e))
    have K7 := Lib.hid (K6.out.trans hk)
    clear hk hbl
    go_wp2_with fail
    refine hK.out _ _ (sh_cells B7.out) (fun hHeld6 => ?_)
    clear hK K
    try simp only [Act.put, List.setIfInBounds_toArray, List.set_cons_zero, List.set_cons_succ]
    refine rd 9 (h := fun K hK => ?_)
    go_simp
    have hFN := fnew (w := w) (w' := w7) B7.out.lt
    refine (text_any P7.out hFN ⟨(List.replicate c (0 : UInt8)).toArray⟩ (by rw [put_len, put_len11, zero_size]; omega)).mono ?_
    rintro e w8 ⟨rfl, hp, hk⟩
    have P8 := Lib.hid hp
    have B8 := Lib.hid (B7.out.kp hk (fun e => by omega))
    have K8 := Lib.hid (K7.out.trans_new hk (fun b e => .inl (by omega)))
    clear hp hk hFN
    go_wp2_with fail
    refine hK.out _ _ (sh_cells B8.out) (fun hHeld7 => ?_)
    clear hK K
    try simp only [Act.put, List.setIfInBounds_toArray, List.set_cons_zero, List.set_cons_succ]
    refine wpAnyH_done (by kernel_rfl) ?_ _
    all_goals
      go_wp2_with fail
      refine (bytes_any P8.out (by rw [put_len, put_len, put_len11, zero_size]; omega)).mono ?_
      rintro e w9 ⟨A, cc, rfl, h1, h2, hr, _, hk⟩
      have P9 := Lib.hid (P8.out.still hk)
      have K9 := Lib.hid (K8.out.trans hk)
      have B9 := Lib.hid (B8.out.kp hk (fun e => e))
      have hb := body_put q false s c hc
      rw [show kindN false = 1 from rfl] at hb
      have hlen : (bodyL q false (tb s)).length = 508 := bodyL_length q false _ (by show s.size ≤ 497; omega)
      rw [hb] at h1 hr P9
      rw [hb]
      clear hb
      have HR := Lib.hid hr
      obtain ⟨L, hL⟩ : ∃ L, bodyL q false (tb s) = L := ⟨_, rfl⟩
      have hsec : secL q false (tb s) = L ++ le4 (crcN L) := by rw [secL, hL]
      have HSEC := Lib.hid hsec
      clear hsec
      rw [hL] at HR hlen P9 ⊢
      have HLEN := Lib.hid hlen
      clear hr hL hk h1 hlen
      go_wp2_with fail
      refine (sum_any' A L cc w9 (by rw [HLEN.out]; decide) HR.out (HT.out.kp K9.out (fun e => e))).mono ?_
      rintro e w10 ⟨rfl, rfl⟩
      have hcl := crcN_lt L
      go_wp2_with fail
      refine (rev_any (crcN L) w9 hcl).mono ?_
      rintro e w10 ⟨rfl, rfl⟩
      have hrl := rev32_lt (crcN L)
      have hrv := beN_rev (crcN L)
      have hw2 : IntKind.u64.wrap ((rev32 (crcN L) : Nat) : Int) = ((rev32 (crcN L) : Nat) : Int) := IntWalk.u64_in _ (by omega)
      generalize rev32 (crcN L) = rv at *
      go_wp2_with fail
      have hFN := fnew (w := w) (w' := w9) B9.out.lt
      refine (put_fine4 P9.out hFN rv hrl (by rw [HLEN.out]; decide)).mono ?_
      rintro e w10 ⟨rfl, hp, hk⟩
      have P10 := Lib.hid hp
      have K10 := Lib.hid (K9.out.trans_new hk (fun b e => .inl (by omega)))
      clear hp hk hFN
      go_wp2_with fail
      rw [putS_ok, hrv] at P10
      have hl2 : (L ++ le4 (crcN L)).length = 512 := by rw [List.length_append, HLEN.out]; rfl
      obtain ⟨M, hM⟩ : ∃ M, L ++ le4 (crcN L) = M := ⟨_, rfl⟩
      rw [hM] at P10 hl2
      have HM := Lib.hid hM
      clear hM
      refine (bytes_any_own P10.out (by rw [hl2]; decide) (by rw [hl2]; decide)).mono ?_
      rintro e w11 ⟨g2, c2, rfl, h1, h2', ho, hg, hk⟩
      rw [hl2]
      rw [hl2] at h1 ho
      have HO2 := Lib.hid ho
      have HK2 := Lib.hid hk
      clear ho hk
      go_wp2_with fail
      go_ret2
      refine ⟨g2, c2, rfl, h1, h2', ?_, Nat.le_trans K10.out.size hg, K10.out.trans HK2.out⟩
      rw [HSEC.out, HM.out]
      exact HO2.out
  · have B0 := Lib.hid (Box.new w 120 #[.int .u64 q, .bool true, .string s])
    have K0 := Lib.hid ((Kp.refl (fun _ => False) w).alloc (.cells #[.int .u64 q, .bool true, .string s] 120))
    go_enter Tryz.func74, Tryz.ntmps74
    go_upto_region 6 with fail
    generalize w.alloc (.cells #[.int .u64 q, .bool true, .string s] 120) = w0 at *
    refine wp_region_held_drew (S := fun v => v.cell? ⟨w.heap.size, 0, none⟩ = some (.int .u64 q) ∧ v.cell? ⟨w.heap.size, 1, none⟩ = some (.bool true) ∧ v.cell? ⟨w.heap.size, 2, none⟩ = some (.string s)) (by kernel_rfl) (sh_cells B0.out) (fun hHeld => ?_)
    refine tk 1 (h := ?_)
    refine tk 2 (h := ?_)
    refine tk 4 (h := ?_)
    refine tk 6 (h := ?_)
    refine tk 7 (h := ?_)
    refine tk 8 (h := ?_)
    refine tk 9 (h := ?_)
    refine rd 0 (h := fun K hK => ?_)
    go_simp
    have hlt := B0.out.lt
    refine (new_any (fun k => w.heap.size + 1 ≤ k) w0.drew hlt).mono ?_
    rintro e w1 ⟨rfl, hp, hk⟩
    have P1 := Lib.hid (pk_of hp)
    have B1 := Lib.hid ((B0.out.drew).kp hk (fun e => e))
    have K1 := Lib.hid (K0.out.drew.trans hk)
    generalize Value.pointer (some ⟨w0.drew.heap.size, 0, none⟩) = p at *
    clear hp hk hlt
    go_wp2_with fail
    refine hK.out _ _ (sh_cells B1.out) (fun hHeld11 => ?_)
    clear hK K
    try simp only [Act.put, List.setIfInBounds_toArray, List.set_cons_zero, List.set_cons_succ]
    refine rd 3 (h := fun K hK => ?_)
    go_simp
    have hFN := fnew (w := w) (w' := w1) B1.out.lt
    have hcall := put_fine8 P1.out hFN q hq (by decide)
    try rw [show ((2 : Nat) : Int) = 2 from rfl] at hcall
    refine hcall.mono ?_
    clear hcall
    rintro e w2 ⟨rfl, hp, hk⟩
    have P2 := Lib.hid hp
    have B2 := Lib.hid (B1.out.kp hk (fun e => by omega))
    have K2 := Lib.hid (K1.out.trans_new hk (fun b e => .inl (by omega)))
    clear hp hk hFN
    go_wp2_with fail
    refine hK.out _ _ (sh_cells B2.out) (fun hHeld12 => ?_)
    clear hK K
    try simp only [Act.put, List.setIfInBounds_toArray, List.set_cons_zero, List.set_cons_succ]
    refine rd 5 (h := fun K hK => ?_)
    go_simp
    have hFN := fnew (w := w) (w' := w2) B2.out.lt
    have hcall := put_fine1 P2.out hFN 2 (by decide) (by simp [putS, beN_length])
    try rw [show ((2 : Nat) : Int) = 2 from rfl] at hcall
    refine hcall.mono ?_
    clear hcall
    rintro e w3 ⟨rfl, hp, hk⟩
    have P3 := Lib.hid hp
    have B3 := Lib.hid (B2.out.kp hk (fun e => by omega))
    have K3 := Lib.hid (K2.out.trans_new hk (fun b e => .inl (by omega)))
    clear hp hk hFN
    go_wp2_with fail
    refine hK.out _ _ (sh_cells B3.out) (fun hHeld13 => ?_)
    clear hK K
    try simp only [Act.put, List.setIfInBounds_toArray, List.set_cons_zero, List.set_cons_succ]
    refine rd 10 (h := fun K hK => ?_)
    go_simp
    have hFN := fnew (w := w) (w' := w3) B3.out.lt
    have hcall := put_fine2 P3.out hFN s.size (by omega) (by simp [putS, beN_length])
    try rw [show ((2 : Nat) : Int) = 2 from rfl] at hcall
    refine hcall.mono ?_
    clear hcall
    rintro e w4 ⟨rfl, hp, hk⟩
    have P4 := Lib.hid hp
    have B4 := Lib.hid (B3.out.kp hk (fun e => by omega))
    have K4 := Lib.hid (K3.out.trans_new hk (fun b e => .inl (by omega)))
    clear hp hk hFN
    go_wp2_with fail
    refine hK.out _ _ (sh_cells B4.out) (fun hHeld14 => ?_)
    clear hK K
    try simp only [Act.put, List.setIfInBounds_toArray, List.set_cons_zero, List.set_cons_succ]
    refine tk 11 (h := ?_)
    refine wpAnyH_done (by kernel_rfl) ?_ _
    go_upto_region 7 with fail
    refine wp_region_held_drew (S := fun v => v.cell? ⟨w.heap.size, 0, none⟩ = some (.int .u64 q) ∧ v.cell? ⟨w.heap.size, 1, none⟩ = some (.bool true) ∧ v.cell? ⟨w.heap.size, 2, none⟩ = some (.string s)) (by kernel_rfl) (sh_cells B4.out) (fun hHeld => ?_)
    refine tk 0 (h := ?_)
    refine tk 1 (h := ?_)
    refine tk 2 (h := ?_)
    refine tk 4 (h := ?_)
    refine tk 5 (h := ?_)
    refine tk 6 (h := ?_)
    refine tk 7 (h := ?_)
    refine rd 3 (h := fun K hK => ?_)
    have P5 := Lib.hid (P4.out.still (Kp.refl _ w4).drew)
    have B5 := Lib.hid (B4.out.drew)
    have K5 := Lib.hid (K4.out.drew)
    generalize w4.drew = w5 at *
    go_simp
    have hFN := fnew (w := w) (w' := w5) B5.out.lt
    refine (text_any P5.out hFN s (by rw [put_len11]; omega)).mono ?_
    rintro e w6 ⟨rfl, hp, hk⟩
    have P6 := Lib.hid hp
    have B6 := Lib.hid (B5.out.kp hk (fun e => by omega))
    have K6 := Lib.hid (K5.out.trans_new hk (fun b e => .inl (by omega)))
    clear hp hk hFN
    go_wp2_with fail
    refine hK.out _ _ (sh_cells B6.out) (fun hHeld15 => ?_)
    clear hK K
    try simp only [Act.put, List.setIfInBounds_toArray, List.set_cons_zero, List.set_cons_succ]
    refine rd 8 (h := fun K hK => ?_)
    go_simp
    rw [hsub.out]
    refine (Tryz.strings_Repeat ⟨#[0]⟩ c w6 (by omega) (by rw [show (⟨#[0]⟩ : ByteArray).size = 1 from rfl, Nat.one_mul]; omega)).mono ?_
    rintro e w7 ⟨rfl, hbl⟩
    have hk := (Kp.of_below hbl).fresh (fun _ => False)
    rw [show (⟨#[0]⟩ : ByteArray).data.toList = [0] from rfl, repeat_zero]
    have P7 := Lib.hid (P6.out.still hk)
    have B7 := Lib.hid (B6.out.kp hk (fun e => e))
    have K7 := Lib.hid (K6.out.trans hk)
    clear hk hbl
    go_wp2_with fail
    refine hK.out _ _ (sh_cells B7.out) (fun hHeld16 => ?_)
    clear hK K
    try simp only [Act.put, List.setIfInBounds_toArray, List.set_cons_zero, List.set_cons_succ]
    refine rd 9 (h := fun K hK => ?_)
    go_simp
    have hFN := fnew (w := w) (w' := w7) B7.out.lt
    refine (text_any P7.out hFN ⟨(List.replicate c (0 : UInt8)).toArray⟩ (by rw [put_len, put_len11, zero_size]; omega)).mono ?_
    rintro e w8 ⟨rfl, hp, hk⟩
    have P8 := Lib.hid hp
    have B8 := Lib.hid (B7.out.kp hk (fun e => by omega))
    have K8 := Lib.hid (K7.out.trans_new hk (fun b e => .inl (by omega)))
    clear hp hk hFN
    go_wp2_with fail
    refine hK.out _ _ (sh_cells B8.out) (fun hHeld17 => ?_)
    clear hK K
    try simp only [Act.put, List.setIfInBounds_toArray, List.set_cons_zero, List.set_cons_succ]
    refine wpAnyH_done (by kernel_rfl) ?_ _
    all_goals
      go_wp2_with fail
      refine (bytes_any P8.out (by rw [put_len, put_len, put_len11, zero_size]; omega)).mono ?_
      rintro e w9 ⟨A, cc, rfl, h1, h2, hr, _, hk⟩
      have P9 := Lib.hid (P8.out.still hk)
      have K9 := Lib.hid (K8.out.trans hk)
      have B9 := Lib.hid (B8.out.kp hk (fun e => e))
      have hb := body_put q true s c hc
      rw [show kindN true = 2 from rfl] at hb
      have hlen : (bodyL q true (tb s)).length = 508 := bodyL_length q true _ (by show s.size ≤ 497; omega)
      rw [hb] at h1 hr P9
      rw [hb]
      clear hb
      have HR := Lib.hid hr
      obtain ⟨L, hL⟩ : ∃ L, bodyL q true (tb s) = L := ⟨_, rfl⟩
      have hsec : secL q true (tb s) = L ++ le4 (crcN L) := by rw [secL, hL]
      have HSEC := Lib.hid hsec
      clear hsec
      rw [hL] at HR hlen P9 ⊢
      have HLEN := Lib.hid hlen
      clear hr hL hk h1 hlen
      go_wp2_with fail
      refine (sum_any' A L cc w9 (by rw [HLEN.out]; decide) HR.out (HT.out.kp K9.out (fun e => e))).mono ?_
      rintro e w10 ⟨rfl, rfl⟩
      have hcl := crcN_lt L
      go_wp2_with fail
      refine (rev_any (crcN L) w9 hcl).mono ?_
      rintro e w10 ⟨rfl, rfl⟩
      have hrl := rev32_lt (crcN L)
      have hrv := beN_rev (crcN L)
      have hw2 : IntKind.u64.wrap ((rev32 (crcN L) : Nat) : Int) = ((rev32 (crcN L) : Nat) : Int) := IntWalk.u64_in _ (by omega)
      generalize rev32 (crcN L) = rv at *
      go_wp2_with fail
      have hFN := fnew (w := w) (w' := w9) B9.out.lt
      refine (put_fine4 P9.out hFN rv hrl (by rw [HLEN.out]; decide)).mono ?_
      rintro e w10 ⟨rfl, hp, hk⟩
      have P10 := Lib.hid hp
      have K10 := Lib.hid (K9.out.trans_new hk (fun b e => .inl (by omega)))
      clear hp hk hFN
      go_wp2_with fail
      rw [putS_ok, hrv] at P10
      have hl2 : (L ++ le4 (crcN L)).length = 512 := by rw [List.length_append, HLEN.out]; rfl
      obtain ⟨M, hM⟩ : ∃ M, L ++ le4 (crcN L) = M := ⟨_, rfl⟩
      rw [hM] at P10 hl2
      have HM := Lib.hid hM
      clear hM
      refine (bytes_any_own P10.out (by rw [hl2]; decide) (by rw [hl2]; decide)).mono ?_
      rintro e w11 ⟨g2, c2, rfl, h1, h2', ho, hg, hk⟩
      rw [hl2]
      rw [hl2] at h1 ho
      have HO2 := Lib.hid ho
      have HK2 := Lib.hid hk
      clear ho hk
      go_wp2_with fail
      go_ret2
      refine ⟨g2, c2, rfl, h1, h2', ?_, Nat.le_trans K10.out.size hg, K10.out.trans HK2.out⟩
      rw [HSEC.out, HM.out]
      exact HO2.out
end Go.Proofs.YtfcljcikajaedaaGreatDoor
