/- What sheet.Put answers: a sheet's sector, or none and the error. Conditions: the table of half bytes reads as the program's text lays it; a number of 64 bits. -/
import Derived.Test.YtfcljcikajaedaaGreatDoorMg3
import Derived.Test.YtfcljcikajaedaaGreatDoorMg2
import Derived.Deep.RegionHeld
import Derived.Test.YtfcljcikajaedaaGreatDoorMg1
namespace Go.Proofs.YtfcljcikajaedaaGreatDoor
open Go.RowKit

theorem sh_cells {w : World} {g : Nat} {q : Nat} {b : Bool} {s : ByteArray} (h : Box w g 120 #[.int .u64 q, .bool b, .string s]) : w.cell? ⟨g, 0, none⟩ = some (.int .u64 q) ∧ w.cell? ⟨g, 1, none⟩ = some (.bool b) ∧ w.cell? ⟨g, 2, none⟩ = some (.string s) := ⟨h.cell 0, h.cell 1, h.cell 2⟩
theorem pk_of {F : Nat → Prop} {w : World} {b : Nat} {l : List UInt8} (h : Pkr F w b l 0) : Pk F w (.pointer (some ⟨b, 0, none⟩)) l 0 := ⟨fun h => absurd rfl h, .inr ⟨b, rfl, h⟩⟩
theorem putS_ok (l s : List UInt8) : putS l 0 s = l ++ s := rfl
theorem fnew {w w' : World} (h : w.heap.size < w'.heap.size) : ∀ k, w'.heap.size ≤ k → w.heap.size + 1 ≤ k := fun _ hk => Nat.le_trans h hk
theorem put_len11 (q k n : Nat) : (putS (putS (putS [] 0 (beN 8 q)) 0 (beN 1 k)) 0 (beN 2 n)).length = 11 := by simp [putS, beN_length]
theorem put_len (l : List UInt8) (s : ByteArray) : (putS l 0 (tb s)).length = l.length + s.size := by rw [putS_ok, List.length_append]; rfl
theorem zero_size (c : Nat) : (⟨(List.replicate c (0 : UInt8)).toArray⟩ : ByteArray).size = c := by show (List.replicate c (0 : UInt8)).toArray.size = c; simp
theorem body_put (q : Nat) (b : Bool) (s : ByteArray) (c : Nat) (h : s.size + c = 497) : putS (putS (putS (putS (putS [] 0 (beN 8 q)) 0 (beN 1 (kindN b))) 0 (beN 2 s.size)) 0 (tb s)) 0 (tb ⟨(List.replicate c (0 : UInt8)).toArray⟩) = bodyL q b (tb s) := by
  have e2 : c = 497 - (tb s).length := by have : (tb s).length = s.size := rfl; omega
  simp only [putS_ok, List.nil_append, bodyL, e2]
  rfl
abbrev sv (q : Nat) (b : Bool) (s : ByteArray) : Value := .agg #[.int .u64 q, .bool b, .string s]

set_option maxRecDepth 100000 in
set_option maxHeartbeats 1000000 in
theorem put_long (q : Nat) (b : Bool) (s : ByteArray) (w : World) (hs : 497 < s.size) :
    Calls Tryz.prog 74 #[sv q b s] w fun e w' => e = .returned (.tuple #[.slice none 0 0, .int .i64 6]) ∧ Kp (fun _ => False) w w' := by
  have hd : decide ((497 : Int) < s.size) = true := by simp; omega
  go_enter Tryz.func74, Tryz.ntmps74
  go_wp2_with fail
  go_ret2
  exact ⟨rfl, (Kp.refl _ w).alloc _⟩

set_option maxRecDepth 100000 in
set_option maxHeartbeats 4000000 in
theorem put_fits (q : Nat) (b : Bool) (s : ByteArray) (w : World) (hq : q < 18446744073709551616) (hs : s.size ≤ 497) (ht : Tbl w) :
    Calls Tryz.prog 74 #[sv q b s] w fun e w' => ∃ A c, e = .returned (.tuple #[.slice A 512 c, .int .i64 0]) ∧ 512 ≤ c ∧ c ≤ maxLen ∧ Rd w' A (secL q b (tb s)) ∧ (∀ a, A = some a → w.heap.size ≤ a.block) ∧ Kp (fun _ => False) w w' := by
  have hd : decide ((497 : Int) < s.size) = false := by simp; omega
  have hw1 : IntKind.u64.wrap (s.size : Int) = s.size := IntWalk.u64_in _ (by omega)
  obtain ⟨c, hc⟩ : ∃ c : Nat, s.size + c = 497 := ⟨497 - s.size, by omega⟩
  have hsub := Lib.hid (show IntKind.i64.wrap ((497 : Int) - s.size) = (c : Int) by rw [IntWalk.i64_in _ (by omega)]; omega)
  have HT := Lib.hid ht
  clear ht
  cases b
  · have B0 := Lib.hid (Box.new w 120 #[.int .u64 q, .bool false, .string s])
    have K0 := Lib.hid ((Kp.refl (fun _ => False) w).alloc (.cells #[.int .u64 q, .bool false, .string s] 120))
    go_enter Tryz.func74, Tryz.ntmps74
    go_upto_region 6 with fail
    generalize w.alloc (.cells #[.int .u64 q, .bool false, .string s] 120) = w0 at *
    refine wp_region_held_drew (S := fun v => v.cell? ⟨w.heap.size, 0, none⟩ = some (.int .u64 q) ∧ v.cell? ⟨w.heap.size, 1, none⟩ = some (.bool false) ∧ v.cell? ⟨w.heap.size, 2, none⟩ = some (.string s)) (by kernel_rfl) (sh_cells B0.out) (fun hHeld => ?_)
    refine tk 1 (h := ?_)
    refine tk 2 (h := ?_)
    refine tk 4 (h := ?_)
    refine tk 6 (h := ?_)
    refine tk 7 (h := ?_)
    refine tk 8 (h := ?_)
    refine tk 9 (h := ?_)
    refine rd 0 (h := fun K hK => ?_)
    go_simp
    have hlt := B0.out.lt
    refine (new_any (fun k => w.heap.size + 1 ≤ k) w0.drew hlt).mono ?_
    rintro e w1 ⟨rfl, hp, hk⟩
    have P1 := Lib.hid (pk_of hp)
    have B1 := Lib.hid ((B0.out.drew).kp hk (fun e => e))
    have K1 := Lib.hid (K0.out.drew.trans hk)
    generalize Value.pointer (some ⟨w0.drew.heap.size, 0, none⟩) = p at *
    clear hp hk hlt
    go_wp2_with fail
    refine hK.out _ _ (sh_cells B1.out) (fun hHeld1 => ?_)
    clear hK K
    try simp only [Act.put, List.setIfInBounds_toArray, List.set_cons_zero, List.set_cons_succ]
    refine rd 3 (h := fun K hK => ?_)
    go_simp
    have hFN := fnew (w := w) (w' := w1) B1.out.lt
    have hcall := put_fine8 P1.out hFN q hq (by decide)
    try rw [show ((1 : Nat) : Int) = 1 from rfl] at hcall
    refine hcall.mono ?_
    clear hcall
    rintro e w2 ⟨rfl, hp, hk⟩
    have P2 := Lib.hid hp
    have B2 := Lib.hid (B1.out.kp hk (fun e => by omega))
    have K2 := Lib.hid (K1.out.trans_new hk (fun b e => .inl (by omega)))
    clear hp hk hFN
    go_wp2_with fail
    refine hK.out _ _ (sh_cells B2.out) (fun hHeld2 => ?_)
    clear hK K
    try simp only [Act.put, List.setIfInBounds_toArray, List.set_cons_zero, List.set_cons_succ]
    refine rd 5 (h := fun K hK => ?_)
    go_simp
    have hFN := fnew (w := w) (w' := w2) B2.out.lt
    have hcall := put_fine1 P2.out hFN 1 (by decide) (by simp [putS, beN_length])
    try rw [show ((1 : Nat) : Int) = 1 from rfl] at hcall
    refine hcall.mono ?_
    clear hcall
    rintro e w3 ⟨rfl, hp, hk⟩
    have P3 := Lib.hid hp
    have B3 := Lib.hid (B2.out.kp hk (fun e => by omega))
    have K3 := Lib.hid (K2.out.trans_new hk (fun b e => .inl (by omega)))
    clear hp hk hFN
    go_wp2_with fail
    refine hK.out _ _ (sh_cells B3.out) (fun hHeld3 => ?_)
    clear hK K
    try simp only [Act.put, List.setIfInBounds_toArray, List.set_cons_zero, List.set_cons_succ]
    refine rd 10 (h := fun K hK => ?_)
    go_simp
    have hFN := fnew (w := w) (w' := w3) B3.out.lt
    have hcall := put_fine2 P3.out hFN s.size (by omega) (by simp [putS, beN_length])
    try rw [show ((1 : Nat) : Int) = 1 from rfl] at hcall
    refine hcall.mono ?_
    clear hcall
    rintro e w4 ⟨rfl, hp, hk⟩
    have P4 := Lib.hid hp
    have B4 := Lib.hid (B3.out.kp hk (fun e => by omega))
    have K4 := Lib.hid (K3.out.trans_new hk (fun b e => .inl (by omega)))
    clear hp hk hFN
    go_wp2_with fail
    refine hK.out _ _ (sh_cells B4.out) (fun hHeld4 => ?_)
    clear hK K
    try simp only [Act.put, List.setIfInBounds_toArray, List.set_cons_zero, List.set_cons_succ]
    refine tk 11 (h := ?_)
    refine wpAnyH_done (by kernel_rfl) ?_ _
    go_upto_region 7 with fail
    refine wp_region_held_drew (S := fun v => v.cell? ⟨w.heap.size, 0, none⟩ = some (.int .u64 q) ∧ v.cell? ⟨w.heap.size, 1, none⟩ = some (.bool false) ∧ v.cell? ⟨w.heap.size, 2, none⟩ = some (.string s)) (by kernel_rfl) (sh_cells B4.out) (fun hHeld => ?_)
    refine tk 0 (h := ?_)
    refine tk 1 (h := ?_)
    refine tk 2 (h := ?_)
    refine tk 4 (h := ?_)
    refine tk 5 (h := ?_)
    refine tk 6 (h := ?_)
    refine tk 7 (h := ?_)
    refine rd 3 (h := fun K hK => ?_)
    have P5 := Lib.hid (P4.out.still (Kp.refl _ w4).drew)
    have B5 := Lib.hid (B4.out.drew)
    have K5 := Lib.hid (K4.out.drew)
    generalize w4.drew = w5 at *
    go_simp
    have hFN := fnew (w := w) (w' := w5) B5.out.lt
    refine (text_any P5.out hFN s (by rw [put_len11]; omega)).mono ?_
    rintro e w6 ⟨rfl, hp, hk⟩
    have P6 := Lib.hid hp
    have B6 := Lib.hid (B5.out.kp hk (fun e => by omega))
    have K6 := Lib.hid (K5.out.trans_new hk (fun b e => .inl (by omega)))
    clear hp hk hFN
    go_wp2_with fail
    refine hK.out _ _ (sh_cells B6.out) (fun hHeld5 => ?_)
    clear hK K
    try simp only [Act.put, List.setIfInBounds_toArray, List.set_cons_zero, List.set_cons_succ]
    refine rd 8 (h := fun K hK => ?_)
    go_simp
    rw [hsub.out]
    refine (Tryz.strings_Repeat ⟨#[0]⟩ c w6 (by omega) (by rw [show (⟨#[0]⟩ : ByteArray).size = 1 from rfl, Nat.one_mul]; omega)).mono ?_
    rintro e w7 ⟨rfl, hbl⟩
    have hk := (Kp.of_below hbl).fresh (fun _ => False)
    rw [show (⟨#[0]⟩ : ByteArray).data.toList = [0] from rfl, repeat_zero]
    have P7 := Lib.hid (P6.out.still hk)
    have B7 := Lib.hid (B6.out.kp hk (fun e => e))
    have K7 := Lib.hid (K6.out.trans hk)
    clear hk hbl
    go_wp2_with fail
    refine hK.out _ _ (sh_cells B7.out) (fun hHeld6 => ?_)
    clear hK K
    try simp only [Act.put, List.setIfInBounds_toArray, List.set_cons_zero, List.set_cons_succ]
    refine rd 9 (h := fun K hK => ?_)
    go_simp
    have hFN := fnew (w := w) (w' := w7) B7.out.lt
    refine (text_any P7.out hFN ⟨(List.replicate c (0 : UInt8)).toArray⟩ (by rw [put_len, put_len11, zero_size]; omega)).mono ?_
    rintro e w8 ⟨rfl, hp, hk⟩
    have P8 := Lib.hid hp
    have B8 := Lib.hid (B7.out.kp hk (fun e => by omega))
    have K8 := Lib.hid (K7.out.trans_new hk (fun b e => .inl (by omega)))
    clear hp hk hFN
    go_wp2_with fail
    refine hK.out _ _ (sh_cells B8.out) (fun hHeld7 => ?_)
    clear hK K
    try simp only [Act.put, List.setIfInBounds_toArray, List.set_cons_zero, List.set_cons_succ]
    refine wpAnyH_done (by kernel_rfl) ?_ _
    all_goals
      go_wp2_with fail
      refine (bytes_any P8.out (by rw [put_len, put_len, put_len11, zero_size]; omega)).mono ?_
      rintro e w9 ⟨A, cc, rfl, h1, h2, hr, _, hk⟩
      have P9 := Lib.hid (P8.out.still hk)
      have K9 := Lib.hid (K8.out.trans hk)
      have B9 := Lib.hid (B8.out.kp hk (fun e => e))
      have hb := body_put q false s c hc
      rw [show kindN false = 1 from rfl] at hb
      have hlen : (bodyL q false (tb s)).length = 508 := bodyL_length q false _ (by show s.size ≤ 497; omega)
      rw [hb] at h1 hr P9
      rw [hb]
      clear hb
      have HR := Lib.hid hr
      obtain ⟨L, hL⟩ : ∃ L, bodyL q false (tb s) = L := ⟨_, rfl⟩
      have hsec : secL q false (tb s) = L ++ le4 (crcN L) := by rw [secL, hL]
      have HSEC := Lib.hid hsec
      clear hsec
      rw [hL] at HR hlen P9 ⊢
      have HLEN := Lib.hid hlen
      clear hr hL hk h1 hlen
      go_wp2_with fail
      refine (sum_any' A L cc w9 (by rw [HLEN.out]; decide) HR.out (HT.out.kp K9.out (fun e => e))).mono ?_
      rintro e w10 ⟨rfl, rfl⟩
      have hcl := crcN_lt L
      go_wp2_with fail
      refine (rev_any (crcN L) w9 hcl).mono ?_
      rintro e w10 ⟨rfl, rfl⟩
      have hrl := rev32_lt (crcN L)
      have hrv := beN_rev (crcN L)
      have hw2 : IntKind.u64.wrap ((rev32 (crcN L) : Nat) : Int) = ((rev32 (crcN L) : Nat) : Int) := IntWalk.u64_in _ (by omega)
      generalize rev32 (crcN L) = rv at *
      go_wp2_with fail
      have hFN := fnew (w := w) (w' := w9) B9.out.lt
      refine (put_fine4 P9.out hFN rv hrl (by rw [HLEN.out]; decide)).mono ?_
      rintro e w10 ⟨rfl, hp, hk⟩
      have P10 := Lib.hid hp
      have K10 := Lib.hid (K9.out.trans_new hk (fun b e => .inl (by omega)))
      clear hp hk hFN
      go_wp2_with fail
      rw [putS_ok, hrv] at P10
      have hl2 : (L ++ le4 (crcN L)).length = 512 := by rw [List.length_append, HLEN.out]; rfl
      obtain ⟨M, hM⟩ : ∃ M, L ++ le4 (crcN L) = M := ⟨_, rfl⟩
      rw [hM] at P10 hl2
      have HM := Lib.hid hM
      clear hM
      refine (bytes_any P10.out (by rw [hl2]; decide)).mono ?_
      rintro e w11 ⟨A2, c2, rfl, h1, h2', hr, hb2, hk⟩
      rw [hl2]
      rw [hl2] at h1
      have HR2 := Lib.hid hr
      have HK2 := Lib.hid hk
      have HB2 := Lib.hid hb2
      clear hr hk hb2
      go_wp2_with fail
      go_ret2
      refine ⟨A2, c2, rfl, h1, h2', ?_, fun a ha => Nat.le_trans K10.out.size (HB2.out a ha), K10.out.trans HK2.out⟩
      rw [HSEC.out, HM.out]
      exact HR2.out
  · have B0 := Lib.hid (Box.new w 120 #[.int .u64 q, .bool true, .string s])
    have K0 := Lib.hid ((Kp.refl (fun _ => False) w).alloc (.cells #[.int .u64 q, .bool true, .string s] 120))
    go_enter Tryz.func74, Tryz.ntmps74
    go_upto_region 6 with fail
    generalize w.alloc (.cells #[.int .u64 q, .bool true, .string s] 120) = w0 at *
    refine wp_region_held_drew (S := fun v => v.cell? ⟨w.heap.size, 0, none⟩ = some (.int .u64 q) ∧ v.cell? ⟨w.heap.size, 1, none⟩ = some (.bool true) ∧ v.cell? ⟨w.heap.size, 2, none⟩ = some (.string s)) (by kernel_rfl) (sh_cells B0.out) (fun hHeld => ?_)
    refine tk 1 (h := ?_)
    refine tk 2 (h := ?_)
    refine tk 4 (h := ?_)
    refine tk 6 (h := ?_)
    refine tk 7 (h := ?_)
    refine tk 8 (h := ?_)
    refine tk 9 (h := ?_)
    refine rd 0 (h := fun K hK => ?_)
    go_simp
    have hlt := B0.out.lt
    refine (new_any (fun k => w.heap.size + 1 ≤ k) w0.drew hlt).mono ?_
    rintro e w1 ⟨rfl, hp, hk⟩
    have P1 := Lib.hid (pk_of hp)
    have B1 := Lib.hid ((B0.out.drew).kp hk (fun e => e))
    have K1 := Lib.hid (K0.out.drew.trans hk)
    generalize Value.pointer (some ⟨w0.drew.heap.size, 0, none⟩) = p at *
    clear hp hk hlt
    go_wp2_with fail
    refine hK.out _ _ (sh_cells B1.out) (fun hHeld11 => ?_)
    clear hK K
    try simp only [Act.put, List.setIfInBounds_toArray, List.set_cons_zero, List.set_cons_succ]
    refine rd 3 (h := fun K hK => ?_)
    go_simp
    have hFN := fnew (w := w) (w' := w1) B1.out.lt
    have hcall := put_fine8 P1.out hFN q hq (by decide)
    try rw [show ((2 : Nat) : Int) = 2 from rfl] at hcall
    refine hcall.mono ?_
    clear hcall
    rintro e w2 ⟨rfl, hp, hk⟩
    have P2 := Lib.hid hp
    have B2 := Lib.hid (B1.out.kp hk (fun e => by omega))
    have K2 := Lib.hid (K1.out.trans_new hk (fun b e => .inl (by omega)))
    clear hp hk hFN
    go_wp2_with fail
    refine hK.out _ _ (sh_cells B2.out) (fun hHeld12 => ?_)
    clear hK K
    try simp only [Act.put, List.setIfInBounds_toArray, List.set_cons_zero, List.set_cons_succ]
    refine rd 5 (h := fun K hK => ?_)
    go_simp
    have hFN := fnew (w := w) (w' := w2) B2.out.lt
    have hcall := put_fine1 P2.out hFN 2 (by decide) (by simp [putS, beN_length])
    try rw [show ((2 : Nat) : Int) = 2 from rfl] at hcall
    refine hcall.mono ?_
    clear hcall
    rintro e w3 ⟨rfl, hp, hk⟩
    have P3 := Lib.hid hp
    have B3 := Lib.hid (B2.out.kp hk (fun e => by omega))
    have K3 := Lib.hid (K2.out.trans_new hk (fun b e => .inl (by omega)))
    clear hp hk hFN
    go_wp2_with fail
    refine hK.out _ _ (sh_cells B3.out) (fun hHeld13 => ?_)
    clear hK K
    try simp only [Act.put, List.setIfInBounds_toArray, List.set_cons_zero, List.set_cons_succ]
    refine rd 10 (h := fun K hK => ?_)
    go_simp
    have hFN := fnew (w := w) (w' := w3) B3.out.lt
    have hcall := put_fine2 P3.out hFN s.size (by omega) (by simp [putS, beN_length])
    try rw [show ((2 : Nat) : Int) = 2 from rfl] at hcall
    refine hcall.mono ?_
    clear hcall
    rintro e w4 ⟨rfl, hp, hk⟩
    have P4 := Lib.hid hp
    have B4 := Lib.hid (B3.out.kp hk (fun e => by omega))
    have K4 := Lib.hid (K3.out.trans_new hk (fun b e => .inl (by omega)))
    clear hp hk hFN
    go_wp2_with fail
    refine hK.out _ _ (sh_cells B4.out) (fun hHeld14 => ?_)
    clear hK K
    try simp only [Act.put, List.setIfInBounds_toArray, List.set_cons_zero, List.set_cons_succ]
    refine tk 11 (h := ?_)
    refine wpAnyH_done (by kernel_rfl) ?_ _
    go_upto_region 7 with fail
    refine wp_region_held_drew (S := fun v => v.cell? ⟨w.heap.size, 0, none⟩ = some (.int .u64 q) ∧ v.cell? ⟨w.heap.size, 1, none⟩ = some (.bool true) ∧ v.cell? ⟨w.heap.size, 2, none⟩ = some (.string s)) (by kernel_rfl) (sh_cells B4.out) (fun hHeld => ?_)
    refine tk 0 (h := ?_)
    refine tk 1 (h := ?_)
    refine tk 2 (h := ?_)
    refine tk 4 (h := ?_)
    refine tk 5 (h := ?_)
    refine tk 6 (h := ?_)
    refine tk 7 (h := ?_)
    refine rd 3 (h := fun K hK => ?_)
    have P5 := Lib.hid (P4.out.still (Kp.refl _ w4).drew)
    have B5 := Lib.hid (B4.out.drew)
    have K5 := Lib.hid (K4.out.drew)
    generalize w4.drew = w5 at *
    go_simp
    have hFN := fnew (w := w) (w' := w5) B5.out.lt
    refine (text_any P5.out hFN s (by rw [put_len11]; omega)).mono ?_
    rintro e w6 ⟨rfl, hp, hk⟩
    have P6 := Lib.hid hp
    have B6 := Lib.hid (B5.out.kp hk (fun e => by omega))
    have K6 := Lib.hid (K5.out.trans_new hk (fun b e => .inl (by omega)))
    clear hp hk hFN
    go_wp2_with fail
    refine hK.out _ _ (sh_cells B6.out) (fun hHeld15 => ?_)
    clear hK K
    try simp only [Act.put, List.setIfInBounds_toArray, List.set_cons_zero, List.set_cons_succ]
    refine rd 8 (h := fun K hK => ?_)
    go_simp
    rw [hsub.out]
    refine (Tryz.strings_Repeat ⟨#[0]⟩ c w6 (by omega) (by rw [show (⟨#[0]⟩ : ByteArray).size = 1 from rfl, Nat.one_mul]; omega)).mono ?_
    rintro e w7 ⟨rfl, hbl⟩
    have hk := (Kp.of_below hbl).fresh (fun _ => False)
    rw [show (⟨#[0]⟩ : ByteArray).data.toList = [0] from rfl, repeat_zero]
    have P7 := Lib.hid (P6.out.still hk)
    have B7 := Lib.hid (B6.out.kp hk (fun e => e))
    have K7 := Lib.hid (K6.out.trans hk)
    clear hk hbl
    go_wp2_with fail
    refine hK.out _ _ (sh_cells B7.out) (fun hHeld16 => ?_)
    clear hK K
    try simp only [Act.put, List.setIfInBounds_toArray, List.set_cons_zero, List.set_cons_succ]
    refine rd 9 (h := fun K hK => ?_)
    go_simp
    have hFN := fnew (w := w) (w' := w7) B7.out.lt
    refine (text_any P7.out hFN ⟨(List.replicate c (0 : UInt8)).toArray⟩ (by rw [put_len, put_len11, zero_size]; omega)).mono ?_
    rintro e w8 ⟨rfl, hp, hk⟩
    have P8 := Lib.hid hp
    have B8 := Lib.hid (B7.out.kp hk (fun e => by omega))
    have K8 := Lib.hid (K7.out.trans_new hk (fun b e => .inl (by omega)))
    clear hp hk hFN
    go_wp2_with fail
    refine hK.out _ _ (sh_cells B8.out) (fun hHeld17 => ?_)
    clear hK K
    try simp only [Act.put, List.setIfInBounds_toArray, List.set_cons_zero, List.set_cons_succ]
    refine wpAnyH_done (by kernel_rfl) ?_ _
    all_goals
      go_wp2_with fail
      refine (bytes_any P8.out (by rw [put_len, put_len, put_len11, zero_size]; omega)).mono ?_
      rintro e w9 ⟨A, cc, rfl, h1, h2, hr, _, hk⟩
      have P9 := Lib.hid (P8.out.still hk)
      have K9 := Lib.hid (K8.out.trans hk)
      have B9 := Lib.hid (B8.out.kp hk (fun e => e))
      have hb := body_put q true s c hc
      rw [show kindN true = 2 from rfl] at hb
      have hlen : (bodyL q true (tb s)).length = 508 := bodyL_length q true _ (by show s.size ≤ 497; omega)
      rw [hb] at h1 hr P9
      rw [hb]
      clear hb
      have HR := Lib.hid hr
      obtain ⟨L, hL⟩ : ∃ L, bodyL q true (tb s) = L := ⟨_, rfl⟩
      have hsec : secL q true (tb s) = L ++ le4 (crcN L) := by rw [secL, hL]
      have HSEC := Lib.hid hsec
      clear hsec
      rw [hL] at HR hlen P9 ⊢
      have HLEN := Lib.hid hlen
      clear hr hL hk h1 hlen
      go_wp2_with fail
      refine (sum_any' A L cc w9 (by rw [HLEN.out]; decide) HR.out (HT.out.kp K9.out (fun e => e))).mono ?_
      rintro e w10 ⟨rfl, rfl⟩
      have hcl := crcN_lt L
      go_wp2_with fail
      refine (rev_any (crcN L) w9 hcl).mono ?_
      rintro e w10 ⟨rfl, rfl⟩
      have hrl := rev32_lt (crcN L)
      have hrv := beN_rev (crcN L)
      have hw2 : IntKind.u64.wrap ((rev32 (crcN L) : Nat) : Int) = ((rev32 (crcN L) : Nat) : Int) := IntWalk.u64_in _ (by omega)
      generalize rev32 (crcN L) = rv at *
      go_wp2_with fail
      have hFN := fnew (w := w) (w' := w9) B9.out.lt
      refine (put_fine4 P9.out hFN rv hrl (by rw [HLEN.out]; decide)).mono ?_
      rintro e w10 ⟨rfl, hp, hk⟩
      have P10 := Lib.hid hp
      have K10 := Lib.hid (K9.out.trans_new hk (fun b e => .inl (by omega)))
      clear hp hk hFN
      go_wp2_with fail
      rw [putS_ok, hrv] at P10
      have hl2 : (L ++ le4 (crcN L)).length = 512 := by rw [List.length_append, HLEN.out]; rfl
      obtain ⟨M, hM⟩ : ∃ M, L ++ le4 (crcN L) = M := ⟨_, rfl⟩
      rw [hM] at P10 hl2
      have HM := Lib.hid hM
      clear hM
      refine (bytes_any P10.out (by rw [hl2]; decide)).mono ?_
      rintro e w11 ⟨A2, c2, rfl, h1, h2', hr, hb2, hk⟩
      rw [hl2]
      rw [hl2] at h1
      have HR2 := Lib.hid hr
      have HK2 := Lib.hid hk
      have HB2 := Lib.hid hb2
      clear hr hk hb2
      go_wp2_with fail
      go_ret2
      refine ⟨A2, c2, rfl, h1, h2', ?_, fun a ha => Nat.le_trans K10.out.size (HB2.out a ha), K10.out.trans HK2.out⟩
      rw [HSEC.out, HM.out]
      exact HR2.out
end Go.Proofs.YtfcljcikajaedaaGreatDoor

/- What sheet.Take stands on: an opener that fails, two slices of bytes compared, a struct as a result. No condition. -/
namespace Go.Proofs.YtfcljcikajaedaaGreatDoor
open Go.RowKit

theorem results_two {P : Program} {fn : Func} {p u : Tmp} {ty : TypeId} (h : fn.results = #[.cell p ty, .tmp u]) (tmps : Array Value) (w : World) (g : Nat) (t : TypeId) (cs : Array Value) (fr : Nat × Nat) (d : TypeDesc)
    (hp : tmps.getD p undef = .pointer (some ⟨g, 0, none⟩)) (hg : w.heap[g]? = some (.cells cs t fr))
    (hu : P.underlying ty = some d) (hd : (match d with | .struct _ | .array _ _ => true | _ => false) = true) (hi : (P.info? ty).map (·.size) = some cs.size) :
    (results fn tmps).run P w = .ok (.tuple #[.agg cs, tmps.getD u undef]) w := by
  have hp' : tmps[p]?.getD undef = .pointer (some ⟨g, 0, none⟩) := by simpa using hp
  rw [results_cell_tmp h]
  simp [hp', asAddr, run_loadVar_row w g t ty cs fr d hg hu hd hi, Result.andThen]
theorem wpList_store_box {P : Program} {ops : Array Oper} {rest : List Oper} {op : Oper} {a : Act} {w : World} {Q : Exit → Act → World → Prop} (hgd : op.guard = none) (ty : TypeId) (x y : Operand) (ho : op.op = .store ty x y)
    (g : Nat) (cs : List Value) (hx : a.eval x = .pointer (some ⟨g, 0, none⟩)) (hy : a.eval y = .agg cs.toArray) {t : TypeId} {old : Array Value} (hb : Box w g t old) (hs : old.size = cs.length)
    (hi : (P.info? ty).map (·.size) = some cs.length) (h1 : ∀ v ∈ cs, v.oneCell' = true)
    (h : ∀ W, Box W g t cs.toArray → Kp (fun k => k = g) w W → wpList P ops Q rest (a.put op.dst undef) W) : wpList P ops Q (op :: rest) a w := by
  have hb' : Box w g t old.toList.toArray := hb
  refine wpList_store_mid hgd ty x y ho g 0 cs.toArray hx hy ?_ (by simpa using hi) (all_oneCell_toArray h1) ?_
  · have := hb'.there
    simp only [List.size_toArray, Array.length_toList] at this ⊢
    rw [← hs]
    exact this
  · exact h _ (hb'.write (by simpa using hs.symm)) (Kp.setCells cs 0 w (Kp.refl _ w) (.inr rfl))
theorem sh_one (q : Nat) (b : Bool) (s : ByteArray) : ∀ v ∈ [Value.int .u64 q, .bool b, .string s], v.oneCell' = true := by
  intro v hv
  simp only [List.mem_cons, List.not_mem_nil, or_false] at hv
  rcases hv with rfl | rfl | rfl <;> rfl
theorem info_sheet : (Tryz.prog.info? 120).map (·.size) = some 3 := by kernel_rfl
theorem str_eq (a b : List UInt8) : ((⟨a.toArray⟩ : ByteArray).toList == (⟨b.toArray⟩ : ByteArray).toList) = (a == b) := by rw [ByteArray.toList_eq, ByteArray.toList_eq]

set_option maxHeartbeats 400000 in
theorem equal_any (A B : Option Addr) (c d n m : Nat) (l k : List UInt8) (w : World) (hn : l.length = n) (hm : k.length = m) (hl : Rd w A l) (hk : Rd w B k) :
    Calls Tryz.prog 91 #[.slice A n c, .slice B m d] w fun e w' => e = .returned (.bool (l == k)) ∧ w = w' := by
  subst hn; subst hm
  have h1 := hl.text (P := Tryz.prog) 31 9 5 c Tryz.underlying31 Tryz.underlying5 Tryz.underlying9
  have h2 := hk.text (P := Tryz.prog) 31 9 5 d Tryz.underlying31 Tryz.underlying5 Tryz.underlying9
  have hs := str_eq l k
  clear hl hk
  go_enter Tryz.func91, Tryz.ntmps91
  go_wp2_with fail
  go_ret
  refine ⟨?_, rfl⟩
  first | rfl | (rw [hs])

section
variable {G : Nat → Prop} {w : World} {b : Nat} {l : List UInt8}

set_option maxHeartbeats 400000 in
theorem otext_short (h : Opn G w b l none) (hG : G w.heap.size) (n : Int) (hn : n < 0 ∨ (l.length : Int) < n) :
    Calls Tryz.prog 92 #[.pointer (some ⟨b, 0, none⟩), .int .i64 n] w fun e w' => e = .returned (.string ⟨#[]⟩) ∧ Opn G w' b l (some 3) ∧ Kp (fun k => k = b) w w' := by
  have H := Lib.hid h
  have HN := Lib.hid hn
  clear h hn
  go_enter Tryz.func92, Tryz.ntmps92
  go_wp2_with fail
  refine (read_text_short H.out hG n HN.out).mono ?_
  rintro e w1 ⟨rfl, ho, hk⟩
  have Ho := Lib.hid ho
  have Hk := Lib.hid hk
  clear ho hk
  go_wp2_with fail
  go_ret
  exact ⟨rfl, Ho.out, Hk.out⟩

set_option maxHeartbeats 400000 in
theorem err_failed {e0 : Int} (h : Opn G w b l (some e0)) :
    Calls Tryz.prog 93 #[.pointer (some ⟨b, 0, none⟩)] w fun e w' => e = .returned (.int .i64 e0) ∧ Kp (fun _ => False) w w' := by
  obtain ⟨_, A, c, fv, hx, _, _, _, _, g, rfl, _, hg⟩ := h
  have HX := Lib.hid hx
  have HG := Lib.hid hg
  clear hx hg
  go_enter Tryz.func93, Tryz.ntmps93
  go_wp2_with fail
  refine (reader_fails b g w _ HX.out).mono ?_
  rintro e w1 ⟨rfl, rfl⟩
  go_wp2_with fail
  refine (failing1 g 0 e0 w HG.out).mono ?_
  rintro e w1 ⟨rfl, q, rfl⟩
  go_wp2_with fail
  go_ret
  exact ⟨rfl, (Kp.refl _ w).drewN q⟩
end
end Go.Proofs.YtfcljcikajaedaaGreatDoor

/- What sheet.Take answers: the sheet of a sector, or a zero one and the error. Conditions: the table of half bytes reads as the program's text lays it; at most 2^47 bytes. -/
namespace Go.Proofs.YtfcljcikajaedaaGreatDoor
open Go.RowKit

/-- A sheet as a value, and what Take answers. -/
def shV (s : Sh) : Value := sv s.q s.last ⟨s.t.toArray⟩
def takeV (l : List UInt8) : Value := match takeS l with
  | some s => .tuple #[shV s, .int .i64 0]
  | none => .tuple #[sv 0 false ⟨#[]⟩, .int .i64 3]
theorem take_results : Tryz.f66.results = #[.cell 2 120, .tmp 3] := rfl
theorem takeV_none {l : List UInt8} (h : takeS l = none) : takeV l = .tuple #[sv 0 false ⟨#[]⟩, .int .i64 3] := by rw [takeV, h]
theorem takeV_some {l : List UInt8} {s : Sh} (h : takeS l = some s) : takeV l = .tuple #[shV s, .int .i64 0] := by rw [takeV, h]

set_option maxRecDepth 100000 in
set_option maxHeartbeats 1000000 in
theorem take_odd (A : Option Addr) (c n : Nat) (l : List UInt8) (w : World) (h : Rd w A l) (ht : Tbl w) (hl : l.length = n) (hn : n ≠ 512) :
    Calls Tryz.prog 66 #[.slice A n c] w fun e w' => e = .returned (takeV l) ∧ Kp (fun _ => False) w w' := by
  have hnn : ((n : Int) != 512) = true := by simp; omega
  rw [takeV_none (by unfold takeS; rw [if_neg (by omega)])]
  clear hn
  have H := Lib.hid h
  have HT := Lib.hid ht
  have B2 := Lib.hid (Box.new w 120 #[.int .u64 0, .bool false, .string ⟨#[]⟩])
  have K0 := Lib.hid ((Kp.refl (fun _ => False) w).alloc (.cells #[.int .u64 0, .bool false, .string ⟨#[]⟩] 120))
  have hz : (w.alloc (.cells #[.int .u64 0, .bool false, .string ⟨#[]⟩] 120)).heap.size = w.heap.size + 1 := by simp
  have HL := Lib.hid hl
  clear h ht hl
  go_enter Tryz.func66, Tryz.ntmps66
  go_upto_region 1 with fail
  generalize w.alloc (.cells #[.int .u64 0, .bool false, .string ⟨#[]⟩] 120) = w0 at *
  go_wp2_with (first | (refine wpList_store_box rfl 120 (.tmp 2) (.tmp 11) rfl w.heap.size [.int .u64 0, .bool false, .string ⟨#[]⟩] rfl rfl B2.out rfl info_sheet (sh_one _ _ _) ?_; intro W hb hk) | fail)
  have KF : Kp (fun _ => False) w W := K0.out.trans_new hk (fun b e => .inl (by omega))
  refine bodyPost_ret (v := .tuple #[sv 0 false ⟨#[]⟩, .int .i64 3]) ?_ rfl ⟨rfl, KF⟩
  exact results_two take_results _ _ w.heap.size 120 _ (0, 0) _ rfl hb Tryz.underlying120 rfl info_sheet

set_option maxRecDepth 100000 in
set_option maxHeartbeats 2000000 in
theorem take_whole (A : Option Addr) (c : Nat) (l : List UInt8) (w : World) (h : Rd w A l) (ht : Tbl w) (hl : l.length = 512) :
    Calls Tryz.prog 66 #[.slice A 512 c] w fun e w' => e = .returned (takeV l) ∧ Kp (fun _ => False) w w' := by
  have H := Lib.hid h
  have HT := Lib.hid ht
  have B2 := Lib.hid (Box.new w 120 #[.int .u64 0, .bool false, .string ⟨#[]⟩])
  have K0 := Lib.hid ((Kp.refl (fun _ => False) w).alloc (.cells #[.int .u64 0, .bool false, .string ⟨#[]⟩] 120))
  have hz : (w.alloc (.cells #[.int .u64 0, .bool false, .string ⟨#[]⟩] 120)).heap.size = w.heap.size + 1 := by simp
  have HL := Lib.hid hl
  clear h ht hl
  go_enter Tryz.func66, Tryz.ntmps66
  go_upto_region 1 with fail
  generalize w.alloc (.cells #[.int .u64 0, .bool false, .string ⟨#[]⟩] 120) = w0 at *
  go_wp2_with fail
  refine (of_any (fun k => w.heap.size + 1 ≤ k) w0 (fun k hk => by omega) A 512 c l HL.out (H.out.kp K0.out (fun _ _ e => e)) (by rw [HL.out]; decide)).mono ?_
  rintro e w1 ⟨o, rfl, hob, ho, hk⟩
  have O1 := Lib.hid ho
  have K1 := Lib.hid (K0.out.trans hk)
  have B1 := Lib.hid (B2.out.kp hk (fun e => e))
  clear ho hk
  go_wp2_with fail
  refine (take_fine O1.out 8 rfl (by rw [HL.out]; decide)).mono ?_
  rintro e w2 ⟨rfl, ho, hk⟩
  have O2 := Lib.hid ho
  have B2 := Lib.hid (B1.out.kp hk (fun e => by omega))
  have K2 := Lib.hid (K1.out.trans_new hk (fun b e => .inl (by omega)))
  clear ho hk
  obtain ⟨q, hq⟩ : ∃ q, numN (l.take 8) = q := ⟨_, rfl⟩
  rw [hq]
  have HQ := Lib.hid hq
  clear hq
  go_wp2_with fail
  refine (take_fine O2.out 1 rfl (by rw [List.length_drop, HL.out]; decide)).mono ?_
  rintro e w3 ⟨rfl, ho, hk⟩
  rw [List.drop_drop] at ho
  have O3 := Lib.hid ho
  have B3 := Lib.hid (B2.out.kp hk (fun e => by omega))
  have K3 := Lib.hid (K2.out.trans_new hk (fun b e => .inl (by omega)))
  clear ho hk
  obtain ⟨k, hk0⟩ : ∃ k, numN ((l.drop 8).take 1) = k := ⟨_, rfl⟩
  rw [hk0]
  obtain ⟨kb, hkb⟩ : ∃ kb, tl l = kb := ⟨_, rfl⟩
  have hb2 : (((k : Nat) : Int) == 2) = kb := by
    rw [← hkb, tl, hk0]
    by_cases h2 : k = 2
    · subst h2; rfl
    · rw [decide_eq_false h2]; simp; omega
  have HK0 := Lib.hid hk0
  have HKB := Lib.hid hkb
  clear hk0 hkb
  have B5 := Lib.hid (Box.new w3 120 #[.int .u64 q, .bool kb, .string ⟨#[]⟩])
  have B4 := Lib.hid (B3.out.alloc (.cells #[.int .u64 q, .bool kb, .string ⟨#[]⟩] 120))
  have K4 := Lib.hid (K3.out.alloc (.cells #[.int .u64 q, .bool kb, .string ⟨#[]⟩] 120))
  have O4 := Lib.hid ((O3.out.old.mono (G' := fun k => w.heap.size + 1 ≤ k ∧ k ≠ w3.heap.size) (fun k e => ⟨e.1, by omega⟩)).kp (((Kp.refl (fun _ => False) w3).alloc (.cells #[.int .u64 q, .bool kb, .string ⟨#[]⟩] 120))) (fun _ _ e => e))
  have hgo : w.heap.size < w3.heap.size := B3.out.lt
  have hgl := B5.out.lt
  have hol : o < w3.heap.size := (O3.out.old).1.2
  go_wp2_with fail
  generalize w3.alloc (.cells #[.int .u64 q, .bool kb, .string ⟨#[]⟩] 120) = w4 at *
  generalize w3.heap.size = g at *
  clear hb2
  refine (take_fine O4.out 2 rfl (by rw [List.length_drop, HL.out]; decide)).mono ?_
  rintro e w5 ⟨rfl, ho, hk⟩
  rw [List.drop_drop] at ho
  have O5 := Lib.hid ho
  have B5a := Lib.hid (B5.out.kp hk (fun e => by omega))
  have B5b := Lib.hid (B4.out.kp hk (fun e => by omega))
  have K5 := Lib.hid (K4.out.trans_new hk (fun b e => .inl (by omega)))
  clear ho hk
  obtain ⟨n, hn⟩ : ∃ n, tn l = n := ⟨_, rfl⟩
  rw [show numN ((l.drop 9).take 2) = n from hn]
  have hnl : n < 65536 := by
    rw [← hn, tn]
    have := numN_lt ((l.drop 9).take 2)
    rw [List.length_take, List.length_drop, HL.out] at this
    exact this
  have HN := Lib.hid hn
  clear hn
  have hwn : IntKind.i64.wrap (n : Int) = n := IntWalk.i64_in _ (by omega)
  go_wp2_with fail
  have hq64 : q < 18446744073709551616 := by
    rw [← HQ.out]
    exact numN_lt8 _ (by rw [List.length_take]; omega)
  by_cases hn1 : n ≤ 501
  · refine (otext_fine O5.out n (by rw [List.length_drop, HL.out]; omega)).mono ?_
    rintro e w6 ⟨rfl, ho, hk⟩
    have B6 := Lib.hid (B5a.out.kp hk (fun e => by omega))
    have R6 := Lib.hid (B5b.out.kp hk (fun e => by omega))
    have K6 := Lib.hid (K5.out.trans_new hk (fun b e => .inl (by omega)))
    have O6 := Lib.hid ho
    clear ho hk
    obtain ⟨tx, htx⟩ : ∃ tx, tt l = tx := ⟨_, rfl⟩
    have htx' : (l.drop (8 + 1 + 2)).take n = tx := by rw [← htx, tt, HN.out]
    rw [htx']
    have htl : tx.length = n := by rw [← htx', List.length_take, List.length_drop, HL.out]; omega
    have HTX := Lib.hid htx
    have HTL := Lib.hid htl
    clear htx htx' htl
    have c2 := B6.out.cell 2
    have f2 := B6.out.free 2
    simp at c2
    have P6 := B6.out.put 2 (.string ⟨tx.toArray⟩)
    simp only [List.setIfInBounds_toArray, List.set_cons_succ, List.set_cons_zero] at P6
    have B7 := Lib.hid P6
    have R7 := Lib.hid (R6.out.kp (Kp.one w6 g 2 (.string ⟨tx.toArray⟩)) (fun e => by omega))
    have K7 := Lib.hid (K6.out.setCell (p := ⟨g, 2, none⟩) (.inl (by show w.heap.size ≤ g; omega)) (.string ⟨tx.toArray⟩))
    have O7 := Lib.hid (O6.out.kp (Kp.one w6 g 2 (.string ⟨tx.toArray⟩)) (fun k e1 e2 => by omega))
    clear P6
    go_upto_region 6 with fail
    generalize w6.setCell ⟨g, 2, none⟩ (.string ⟨tx.toArray⟩) = w7 at *
    clear c2 f2
    go_wp2_with (first | (refine wpList_load_mid rfl 120 (.tmp 5) rfl g 0 rfl [.int .u64 q, .bool kb, .string ⟨tx.toArray⟩] _ (Box.range' (L := [.int .u64 q, .bool kb, .string ⟨tx.toArray⟩]) B7.out) Tryz.underlying120 rfl info_sheet ?_) | fail)

    by_cases hn2 : n ≤ 497
    · have hsz : (⟨tx.toArray⟩ : ByteArray).size = n := by rw [← HTL.out]; show tx.toArray.size = tx.length; simp
      refine (put_fits q kb ⟨tx.toArray⟩ w7 hq64 (by rw [hsz]; exact hn2) (HT.out.kp K7.out (fun e => e))).mono ?_
      clear hsz
      rintro e w8 ⟨A8, c8, rfl, h81, h82, hr8, ha8, hk⟩
      have hsz7 := B7.out.lt
      have hol7 : o < w7.heap.size := by omega
      have HR8 := Lib.hid hr8
      have HA8 := Lib.hid ha8
      clear hr8 ha8
      have B8 := Lib.hid (B7.out.kp hk (fun e => e))
      have R8 := Lib.hid (R7.out.kp hk (fun e => e))
      have K8 := Lib.hid (K7.out.trans hk)
      have O8 := Lib.hid (O7.out.kp hk (fun _ _ e => e))
      clear hk
      go_wp2_with fail
      refine (err_fine O8.out).mono ?_
      rintro e w9 ⟨rfl, _, hk⟩
      have B9 := Lib.hid (B8.out.kp hk (fun e => by omega))
      have R9 := Lib.hid (R8.out.kp hk (fun e => by omega))
      have K9 := Lib.hid (K8.out.trans_new hk (fun b e => .inl (by omega)))
      have HK89 := Lib.hid hk
      clear hk

      have HA := Lib.hid (H.out.kp K9.out (fun _ _ e => e))
      have HR9 := Lib.hid (HR8.out.kp HK89.out (fun a ha => by have := HA8.out a ha; omega))
      have hsl := Lib.hid (secL_length q kb tx (by rw [HTL.out]; exact hn2))
      go_wp2_with fail
      refine (equal_any A A8 c c8 512 512 l (secL q kb tx) w9 HL.out hsl.out HA.out HR9.out).mono ?_
      rintro e w10 ⟨rfl, rfl⟩
      by_cases heq : l = secL q kb tx
      · have hE : (l == secL q kb tx) = true := by rw [← heq]; simp
        rw [hE]
        have HV := Lib.hid (takeV_some (l := l) (s := ⟨q, kb, tx⟩) (by unfold takeS; rw [show tq l = q from HQ.out, HKB.out, HTX.out, HN.out, if_pos ⟨HL.out, hn2, heq.symm⟩]))
        clear hE heq
        go_wp2_with (first | (refine wpList_load_mid rfl 120 (.tmp 5) rfl g 0 rfl [.int .u64 q, .bool kb, .string ⟨tx.toArray⟩] _ (Box.range' (L := [.int .u64 q, .bool kb, .string ⟨tx.toArray⟩]) B9.out) Tryz.underlying120 rfl info_sheet ?_) | (refine wpList_store_box rfl 120 (.tmp 2) (.tmp 45) rfl w.heap.size [.int .u64 q, .bool kb, .string ⟨tx.toArray⟩] rfl rfl R9.out rfl info_sheet (sh_one _ _ _) ?_; intro W hb hk) | fail)
        have KF : Kp (fun _ => False) w W := K9.out.trans_new hk (fun b e => .inl (by omega))
        rw [HV.out]
        refine bodyPost_ret (v := .tuple #[sv q kb ⟨tx.toArray⟩, .int .i64 0]) ?_ rfl ⟨rfl, KF⟩
        exact results_two take_results _ _ w.heap.size 120 _ (0, 0) _ rfl hb Tryz.underlying120 rfl info_sheet
      · have hE : (l == secL q kb tx) = false := by simpa using heq
        rw [hE]
        have HV := Lib.hid (takeV_none (l := l) (by unfold takeS; rw [show tq l = q from HQ.out, HKB.out, HTX.out, HN.out, if_neg (fun h => heq h.2.2.symm)]))
        clear hE heq
        go_wp2_with (first | (refine wpList_store_box rfl 120 (.tmp 2) (.tmp 44) rfl w.heap.size [.int .u64 0, .bool false, .string ⟨#[]⟩] rfl rfl R9.out rfl info_sheet (sh_one _ _ _) ?_; intro W hb hk) | fail)
        have KF : Kp (fun _ => False) w W := K9.out.trans_new hk (fun b e => .inl (by omega))
        rw [HV.out]
        refine bodyPost_ret (v := .tuple #[sv 0 false ⟨#[]⟩, .int .i64 3]) ?_ rfl ⟨rfl, KF⟩
        exact results_two take_results _ _ w.heap.size 120 _ (0, 0) _ rfl hb Tryz.underlying120 rfl info_sheet

    · refine (put_long q kb ⟨tx.toArray⟩ w7 (by have : (⟨tx.toArray⟩ : ByteArray).size = n := by rw [← HTL.out]; show tx.toArray.size = tx.length; simp
                                                omega)).mono ?_
      rintro e w8 ⟨rfl, hk⟩
      have HV := Lib.hid (takeV_none (l := l) (by unfold takeS; rw [HN.out, if_neg (by omega)]))
      have B8 := Lib.hid (B7.out.kp hk (fun e => e))
      have R8 := Lib.hid (R7.out.kp hk (fun e => e))
      have K8 := Lib.hid (K7.out.trans hk)
      have O8 := Lib.hid (O7.out.kp hk (fun _ _ e => e))
      clear hk
      go_wp2_with fail
      refine (err_fine O8.out).mono ?_
      rintro e w9 ⟨rfl, _, hk⟩
      have B9 := Lib.hid (B8.out.kp hk (fun e => by omega))
      have R9 := Lib.hid (R8.out.kp hk (fun e => by omega))
      have K9 := Lib.hid (K8.out.trans_new hk (fun b e => .inl (by omega)))
      clear hk
      go_wp2_with (first | (refine wpList_store_box rfl 120 (.tmp 2) (.tmp 44) rfl w.heap.size [.int .u64 0, .bool false, .string ⟨#[]⟩] rfl rfl R9.out rfl info_sheet (sh_one _ _ _) ?_; intro W hb hk) | fail)
      have KF : Kp (fun _ => False) w W := K9.out.trans_new hk (fun b e => .inl (by omega))
      rw [HV.out]
      refine bodyPost_ret (v := .tuple #[sv 0 false ⟨#[]⟩, .int .i64 3]) ?_ rfl ⟨rfl, KF⟩
      exact results_two take_results _ _ w.heap.size 120 _ (0, 0) _ rfl hb Tryz.underlying120 rfl info_sheet

  · have hg5 := B5a.out.lt
    refine (otext_short O5.out ⟨by omega, by omega⟩ n (.inr (by rw [List.length_drop, HL.out]; omega))).mono ?_
    rintro e w6 ⟨rfl, ho, hk⟩
    have B6 := Lib.hid (B5a.out.kp hk (fun e => by omega))
    have R6 := Lib.hid (B5b.out.kp hk (fun e => by omega))
    have K6 := Lib.hid (K5.out.trans_new hk (fun b e => .inl (by omega)))
    have O6 := Lib.hid ho
    clear ho hk
    have c2 := B6.out.cell 2
    have f2 := B6.out.free 2
    simp at c2
    have P6 := B6.out.put 2 (.string ⟨#[]⟩)
    simp only [List.setIfInBounds_toArray, List.set_cons_succ, List.set_cons_zero] at P6
    have B7 := Lib.hid P6
    have R7 := Lib.hid (R6.out.kp (Kp.one w6 g 2 (.string ⟨#[]⟩)) (fun e => by omega))
    have K7 := Lib.hid (K6.out.setCell (p := ⟨g, 2, none⟩) (.inl (by show w.heap.size ≤ g; omega)) (.string ⟨#[]⟩))
    have O7 := Lib.hid (O6.out.kp (Kp.one w6 g 2 (.string ⟨#[]⟩)) (fun k e1 e2 => by omega))
    clear P6
    go_upto_region 6 with fail
    generalize w6.setCell ⟨g, 2, none⟩ (.string ⟨#[]⟩) = w7 at *
    clear c2 f2
    go_wp2_with (first | (refine wpList_load_mid rfl 120 (.tmp 5) rfl g 0 rfl [.int .u64 q, .bool kb, .string ⟨#[]⟩] _ (Box.range' (L := [.int .u64 q, .bool kb, .string ⟨#[]⟩]) B7.out) Tryz.underlying120 rfl info_sheet ?_) | fail)

    refine (put_fits q kb ⟨#[]⟩ w7 hq64 (by decide) (HT.out.kp K7.out (fun e => e))).mono ?_
    rintro e w8 ⟨A8, c8, rfl, h81, h82, _, _, hk⟩
    have HV := Lib.hid (takeV_none (l := l) (by unfold takeS; rw [HN.out, if_neg (by omega)]))
    have B8 := Lib.hid (B7.out.kp hk (fun e => e))
    have R8 := Lib.hid (R7.out.kp hk (fun e => e))
    have K8 := Lib.hid (K7.out.trans hk)
    have O8 := Lib.hid (O7.out.kp hk (fun _ _ e => e))
    clear hk
    go_wp2_with fail

    refine (err_failed O8.out).mono ?_
    rintro e w9 ⟨rfl, hk⟩
    have B9 := Lib.hid (B8.out.kp hk (fun e => e))
    have R9 := Lib.hid (R8.out.kp hk (fun e => e))
    have K9 := Lib.hid (K8.out.trans hk)
    clear hk
    go_wp2_with (first | (refine wpList_store_box rfl 120 (.tmp 2) (.tmp 44) rfl w.heap.size [.int .u64 0, .bool false, .string ⟨#[]⟩] rfl rfl R9.out rfl info_sheet (sh_one _ _ _) ?_; intro W hb hk) | fail)
    have KF : Kp (fun _ => False) w W := K9.out.trans_new hk (fun b e => .inl (by omega))
    rw [HV.out]
    refine bodyPost_ret (v := .tuple #[sv 0 false ⟨#[]⟩, .int .i64 3]) ?_ rfl ⟨rfl, KF⟩
    exact results_two take_results _ _ w.heap.size 120 _ (0, 0) _ rfl hb Tryz.underlying120 rfl info_sheet


theorem take_any (A : Option Addr) (c n : Nat) (l : List UInt8) (w : World) (h : Rd w A l) (ht : Tbl w) (hl : l.length = n) :
    Calls Tryz.prog 66 #[.slice A n c] w fun e w' => e = .returned (takeV l) ∧ Kp (fun _ => False) w w' := by
  by_cases hn : n = 512
  · subst hn
    exact take_whole A c l w h ht hl
  · exact take_odd A c n l w h ht hl hn
end Go.Proofs.YtfcljcikajaedaaGreatDoor
