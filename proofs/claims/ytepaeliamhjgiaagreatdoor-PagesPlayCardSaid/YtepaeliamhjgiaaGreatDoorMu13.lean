/- The law of pages, part 13 of 55: ShBytes ShPutOwn WlBytes. -/
import Derived.Test.YtepaeliamhjgiaaGreatDoorMu1
import Derived.Test.YtepaeliamhjgiaaGreatDoorMu10
import Derived.Test.YtepaeliamhjgiaaGreatDoorMu5
import Derived.Test.YtepaeliamhjgiaaGreatDoorMu11
import Derived.Test.YtepaeliamhjgiaaGreatDoorMu12
set_option maxHeartbeats 16000000
set_option maxRecDepth 100000
namespace Go.Proofs.YtepaeliamhjgiaaGreatDoor
open Go.RowKit
theorem clone_own (A : Option Addr) (c : Nat) (l : List UInt8) (w : World) (h : Rd w A l) (hlen : l.length <= 140737488355328) :
  Calls Tryz.prog 139 #[.slice A l.length c] w fun e w' => ∃ v, e = .returned v /\ w'.ownsRow 0 5 1 v l.length (bcs l) /\ (∀ k, v.ownBlock = some k -> w.heap.size <= k) /\ Kp (fun _ => False) w w' := by
 obtain ⟨i0, hi, hz0, hz1, hz2⟩ := info_parts info_byte
 have hnil := Lib.run_eql_slice_nil (P := Tryz.prog) w 50 5 A l.length c 0 0 Tryz.underlying50
 rcases A with _ | a
 ·have hl : l = [] := by
   rcases h with h | ⟨b, o, e, _⟩
   ·exact h
   ·cases e
  subst hl
  simp only [List.length_nil, Option.isNone_none] at hnil
  show Calls Tryz.prog 139 #[.slice none 0 c] w _
  go_enter Tryz.func139, Tryz.ntmps139
  go_wp2_with fail
  go_ret
  exact ⟨_, rfl, World.ownsRow_nil _ _ _ _, (fun _ h => by cases h), Kp.refl _ _⟩
 ·simp only [Option.isNone_some] at hnil
  have H := hHd h
  clear h
  go_enter Tryz.func139, Tryz.ntmps139
  go_wp2_with (at_builtin; refine wpList_put _ rfl (.tmp 5) (.tmp 6) 50 rfl 5 i0 Tryz.underlying50 hi hz0 hz1 hz2 _ rfl [] l (World.ownsRow_made w #[] 0 (Nat.zero_le _) (by simp [maxLen]) rfl) (some a) l.length c rfl rfl (H.out.alloc _) (by simpa using hlen) ?_)
  intro v' w1 hown hg hat
  have Hown := hHd hown
  have Hg := hHd hg
  have Hat := hHd hat
  clear hown hg hat
  go_wp2_with fail
  go_ret
  have hk : Kp (fun k => w.heap.size <= k) w w1 := ((Kp.refl _ w).alloc (.cells #[] 5)).grown Hg.out (by
   intro k hk
   simp [Value.ownBlock] at hk
   exact .inl (by omega))
  refine ⟨v', rfl, Hown.out, ?_, hk.fresh _⟩
  intro k hk
  rcases Hat.out with e | e <;> rw [e] at hk <;> simp [Value.ownBlock] at hk <;> omega
section
variable {F : Nat -> Prop} {w : World} {p : Value} {l : List UInt8} {err : Int}
theorem bytes_own {b : Nat} (h : Pkr F w b l err) (hlen : l.length <= 140737488355328) :
  Calls Tryz.prog 114 #[.pointer (some ⟨b, 0, none⟩)] w fun e w' => ∃ v, e = .returned (.tuple #[v, .int .i64 err]) /\ w'.ownsRow 0 5 1 v l.length (bcs l) /\ (∀ k, v.ownBlock = some k -> w.heap.size <= k) /\ Kp (fun _ => False) w w' := by
 have H := hHd h
 obtain ⟨hb, v, hx, ho, hv⟩ := h
 obtain ⟨A, c, rfl⟩ := own_shape ho
 have hr := Rd.of_own ho
 have c0 := hx.cell 0
 have c1 := hx.cell 1
 simp at c0 c1
 have Hx : Hid (Box w.drew b 200 #[.slice A l.length c, .int .i64 err]) := hx.drew
 have Hr : Hid (Rd w.drew A l) := hr
 clear hx hr ho
 go_enter Tryz.func114, Tryz.ntmps114
 go_wp2_with fail
 go_region_with (go_at_call 139; refine (clone_own A c l w.drew Hr.out hlen).mono ?_; rintro e w1 ⟨v1, rfl, hs1, ho1, hk1⟩; have Ho1 : Hid (∀ k, v1.ownBlock = some k -> w.heap.size <= k) := hHd ho1; have c1' := (Hx.out.kp hk1 (fun h => h)).cell 1; simp at c1'; have Hs1 := hHd hs1; have Hk1 := hHd hk1; clear hs1 ho1 hk1)
 all_goals go_wp2
 all_goals go_ret2
 all_goals exact ⟨_, rfl, Hid.out (by assumption), Hid.out (by assumption), (Kp.refl _ w).drew.trans (Hid.out (by assumption))⟩
theorem bytes_any_own (h : Pk F w p l err) (hl : 0 < l.length) (hlen : l.length <= 140737488355328) :
  Calls Tryz.prog 114 #[p] w fun e w' => ∃ g c, e = .returned (.tuple #[.slice (some ⟨g, 0, none⟩) l.length c, .int .i64 err]) /\ l.length <= c /\ c <= maxLen /\ w'.ownsRow 0 5 1 (.slice (some ⟨g, 0, none⟩) l.length c) l.length (bcs l) /\ w.heap.size <= g /\ Kp (fun _ => False) w w' := by
 obtain ⟨h0, ⟨rfl, rfl⟩ | ⟨b, rfl, h⟩⟩ := h
 ·obtain rfl := h0 (by decide)
  simp at hl
 ·refine (bytes_own h hlen).mono ?_
  rintro e w' ⟨v, rfl, ho, hb, hk⟩
  have ho' := ho
  rcases ho.2 with ⟨_, h2⟩ | ⟨g, cap, cur, rfl, _, _, hc, hm, _⟩
  ·omega
  ·exact ⟨g, cap, rfl, hc, hm, ho', hb g rfl, hk⟩
end
theorem put_own (q : Nat) (b : Bool) (s : ByteArray) (w : World) (hq : q < 18446744073709551616) (hs : s.size <= 497) (ht : Tbl w) :
  Calls Tryz.prog 156 #[sv q b s] w fun e w' => ∃ g c, e = .returned (.tuple #[.slice (some ⟨g, 0, none⟩) 512 c, .int .i64 0]) /\ 512 <= c /\ c <= maxLen /\ w'.ownsRow 0 5 1 (.slice (some ⟨g, 0, none⟩) 512 c) 512 (bcs (secL q b (tb s))) /\ w.heap.size <= g /\ Kp (fun _ => False) w w' := by
 have hd : decide ((497 : Int) < s.size) = false := by simp; omega
 have hw1 : IntKind.u64.wrap (s.size : Int) = s.size := IntWalk.u64_in _ (by omega)
 obtain ⟨c, hc⟩ : ∃ c : Nat, s.size + c = 497 := ⟨497 - s.size, by omega⟩
 have hsub := hHd (show IntKind.i64.wrap ((497 : Int) - s.size) = (c : Int) by rw [IntWalk.i64_in _ (by omega)]; omega)
 have HT := hHd ht
 clear ht
 cases b
 ·have B0 := hHd (Box.new w 172 #[.int .u64 q, .bool false, .string s])
  have K0 := hHd ((Kp.refl (fun _ => False) w).alloc (.cells #[.int .u64 q, .bool false, .string s] 172))
  go_enter Tryz.func156, Tryz.ntmps156
  go_upto_region 6 with fail
  generalize w.alloc (.cells #[.int .u64 q, .bool false, .string s] 172) = w0 at *
  refine wp_region_held_drew (S := fun v => v.cell? ⟨w.heap.size, 0, none⟩ = some (.int .u64 q) /\ v.cell? ⟨w.heap.size, 1, none⟩ = some (.bool false) /\ v.cell? ⟨w.heap.size, 2, none⟩ = some (.string s)) (by kernel_rfl) (sh_cells B0.out) (fun hHeld => ?_)
  refine tk 1 (h := ?_)
  refine tk 2 (h := ?_)
  refine tk 4 (h := ?_)
  refine tk 6 (h := ?_)
  refine tk 7 (h := ?_)
  refine tk 8 (h := ?_)
  refine tk 9 (h := ?_)
  refine rd 0 (h := fun K hK => ?_)
  go_simp
  have hlt := B0.out.lt
  refine (new_any (fun k => w.heap.size + 1 <= k) w0.drew hlt).mono ?_
  rintro e w1 ⟨rfl, hp, hk⟩
  have P1 := hHd (pk_of hp)
  have B1 := hHd ((B0.out.drew).kp hk (fun e => e))
  have K1 := hHd (K0.out.drew.trans hk)
  generalize Value.pointer (some ⟨w0.drew.heap.size, 0, none⟩) = p at *
  clear hp hk hlt
  go_wp2_with fail
  refine hK.out _ _ (sh_cells B1.out) (fun hHeld1 => ?_)
  clear hK K
  try simp only [Act.put, sIa, sI0, sI1]
  refine rd 3 (h := fun K hK => ?_)
  go_simp
  have hFN := fnew (w := w) (w' := w1) B1.out.lt
  have hcall := put_fine8 P1.out hFN q hq (by decide)
  try rw [show ((1 : Nat) : Int) = 1 from rfl] at hcall
  refine hcall.mono ?_
  clear hcall
  rintro e w2 ⟨rfl, hp, hk⟩
  have P2 := hHd hp
  have B2 := hHd (B1.out.kp hk (fun e => by omega))
  have K2 := hHd (K1.out.trans_new hk (fun b e => .inl (by omega)))
  clear hp hk hFN
  go_wp2_with fail
  refine hK.out _ _ (sh_cells B2.out) (fun hHeld2 => ?_)
  clear hK K
  try simp only [Act.put, sIa, sI0, sI1]
  refine rd 5 (h := fun K hK => ?_)
  go_simp
  have hFN := fnew (w := w) (w' := w2) B2.out.lt
  have hcall := put_fine1 P2.out hFN 1 (by decide) (by simp [putS, beN_length])
  try rw [show ((1 : Nat) : Int) = 1 from rfl] at hcall
  refine hcall.mono ?_
  clear hcall
  rintro e w3 ⟨rfl, hp, hk⟩
  have P3 := hHd hp
  have B3 := hHd (B2.out.kp hk (fun e => by omega))
  have K3 := hHd (K2.out.trans_new hk (fun b e => .inl (by omega)))
  clear hp hk hFN
  go_wp2_with fail
  refine hK.out _ _ (sh_cells B3.out) (fun hHeld3 => ?_)
  clear hK K
  try simp only [Act.put, sIa, sI0, sI1]
  refine rd 10 (h := fun K hK => ?_)
  go_simp
  have hFN := fnew (w := w) (w' := w3) B3.out.lt
  have hcall := put_fine2 P3.out hFN s.size (by omega) (by simp [putS, beN_length])
  try rw [show ((1 : Nat) : Int) = 1 from rfl] at hcall
  refine hcall.mono ?_
  clear hcall
  rintro e w4 ⟨rfl, hp, hk⟩
  have P4 := hHd hp
  have B4 := hHd (B3.out.kp hk (fun e => by omega))
  have K4 := hHd (K3.out.trans_new hk (fun b e => .inl (by omega)))
  clear hp hk hFN
  go_wp2_with fail
  refine hK.out _ _ (sh_cells B4.out) (fun hHeld4 => ?_)
  clear hK K
  try simp only [Act.put, sIa, sI0, sI1]
  refine tk 11 (h := ?_)
  refine wpAnyH_done (by kernel_rfl) ?_ _
  go_upto_region 7 with fail
  refine wp_region_held_drew (S := fun v => v.cell? ⟨w.heap.size, 0, none⟩ = some (.int .u64 q) /\ v.cell? ⟨w.heap.size, 1, none⟩ = some (.bool false) /\ v.cell? ⟨w.heap.size, 2, none⟩ = some (.string s)) (by kernel_rfl) (sh_cells B4.out) (fun hHeld => ?_)
  refine tk 0 (h := ?_)
  refine tk 1 (h := ?_)
  refine tk 2 (h := ?_)
  refine tk 4 (h := ?_)
  refine tk 5 (h := ?_)
  refine tk 6 (h := ?_)
  refine tk 7 (h := ?_)
  refine rd 3 (h := fun K hK => ?_)
  have P5 := hHd (P4.out.still (Kp.refl _ w4).drew)
  have B5 := hHd (B4.out.drew)
  have K5 := hHd (K4.out.drew)
  generalize w4.drew = w5 at *
  go_simp
  have hFN := fnew (w := w) (w' := w5) B5.out.lt
  refine (text_any P5.out hFN s (by rw [put_len11]; omega)).mono ?_
  rintro e w6 ⟨rfl, hp, hk⟩
  have P6 := hHd hp
  have B6 := hHd (B5.out.kp hk (fun e => by omega))
  have K6 := hHd (K5.out.trans_new hk (fun b e => .inl (by omega)))
  clear hp hk hFN
  go_wp2_with fail
  refine hK.out _ _ (sh_cells B6.out) (fun hHeld5 => ?_)
  clear hK K
  try simp only [Act.put, sIa, sI0, sI1]
  refine rd 8 (h := fun K hK => ?_)
  go_simp
  rw [hsub.out]
  refine (Tryz.strings_Repeat ⟨#[0]⟩ c w6 (by omega) (by rw [show (⟨#[0]⟩ : ByteArray).size = 1 from rfl, Nat.one_mul]; omega)).mono ?_
  rintro e w7 ⟨rfl, hbl⟩
  have hk := (Kp.of_below hbl).fresh (fun _ => False)
  rw [show (⟨#[0]⟩ : ByteArray).data.toList = [0] from rfl, repeat_zero]
  have P7 := hHd (P6.out.still hk)
  have B7 := hHd (B6.out.kp hk (fun e => e))
  have K7 := hHd (K6.out.trans hk)
  clear hk hbl
  go_wp2_with fail
  refine hK.out _ _ (sh_cells B7.out) (fun hHeld6 => ?_)
  clear hK K
  try simp only [Act.put, sIa, sI0, sI1]
  refine rd 9 (h := fun K hK => ?_)
  go_simp
  have hFN := fnew (w := w) (w' := w7) B7.out.lt
  refine (text_any P7.out hFN ⟨(List.replicate c (0 : UInt8)).toArray⟩ (by rw [put_len, put_len11, zero_size]; omega)).mono ?_
  rintro e w8 ⟨rfl, hp, hk⟩
  have P8 := hHd hp
  have B8 := hHd (B7.out.kp hk (fun e => by omega))
  have K8 := hHd (K7.out.trans_new hk (fun b e => .inl (by omega)))
  clear hp hk hFN
  go_wp2_with fail
  refine hK.out _ _ (sh_cells B8.out) (fun hHeld7 => ?_)
  clear hK K
  try simp only [Act.put, sIa, sI0, sI1]
  refine wpAnyH_done (by kernel_rfl) ?_ _
  all_goals
   go_wp2_with fail
   refine (bytes_any P8.out (by rw [put_len, put_len, put_len11, zero_size]; omega)).mono ?_
   rintro e w9 ⟨A, cc, rfl, h1, h2, hr, _, hk⟩
   have P9 := hHd (P8.out.still hk)
   have K9 := hHd (K8.out.trans hk)
   have B9 := hHd (B8.out.kp hk (fun e => e))
   have hb := body_put q false s c hc
   rw [show kindN false = 1 from rfl] at hb
   have hlen : (bodyL q false (tb s)).length = 508 := bodyL_length q false _ (by show s.size <= 497; omega)
   rw [hb] at h1 hr P9
   rw [hb]
   clear hb
   have HR := hHd hr
   obtain ⟨L, hL⟩ : ∃ L, bodyL q false (tb s) = L := ⟨_, rfl⟩
   have hsec : secL q false (tb s) = L ++ le4 (crcN L) := by rw [secL, hL]
   have HSEC := hHd hsec
   clear hsec
   rw [hL] at HR hlen P9 ⊢
   have HLEN := hHd hlen
   clear hr hL hk h1 hlen
   go_wp2_with fail
   refine (sum_any' A L cc w9 (by rw [HLEN.out]; decide) HR.out (HT.out.kp K9.out (fun e => e))).mono ?_
   rintro e w10 ⟨rfl, rfl⟩
   have hcl := crcN_lt L
   go_wp2_with fail
   refine (rev_any (crcN L) w9 hcl).mono ?_
   rintro e w10 ⟨rfl, rfl⟩
   have hrl := rev32_lt (crcN L)
   have hrv := beN_rev (crcN L)
   have hw2 : IntKind.u64.wrap ((rev32 (crcN L) : Nat) : Int) = ((rev32 (crcN L) : Nat) : Int) := IntWalk.u64_in _ (by omega)
   generalize rev32 (crcN L) = rv at *
   go_wp2_with fail
   have hFN := fnew (w := w) (w' := w9) B9.out.lt
   refine (put_fine4 P9.out hFN rv hrl (by rw [HLEN.out]; decide)).mono ?_
   rintro e w10 ⟨rfl, hp, hk⟩
   have P10 := hHd hp
   have K10 := hHd (K9.out.trans_new hk (fun b e => .inl (by omega)))
   clear hp hk hFN
   go_wp2_with fail
   rw [putS_ok, hrv] at P10
   have hl2 : (L ++ le4 (crcN L)).length = 512 := by rw [List.length_append, HLEN.out]; rfl
   obtain ⟨M, hM⟩ : ∃ M, L ++ le4 (crcN L) = M := ⟨_, rfl⟩
   rw [hM] at P10 hl2
   have HM := hHd hM
   clear hM
   refine (bytes_any_own P10.out (by rw [hl2]; decide) (by rw [hl2]; decide)).mono ?_
   rintro e w11 ⟨g2, c2, rfl, h1, h2', ho, hg, hk⟩
   rw [hl2]
   rw [hl2] at h1 ho
   have HO2 := hHd ho
   have HK2 := hHd hk
   clear ho hk
   go_wp2_with fail
   go_ret2
   refine ⟨g2, c2, rfl, h1, h2', ?_, Nat.le_trans K10.out.size hg, K10.out.trans HK2.out⟩
   rw [HSEC.out, HM.out]
   exact HO2.out
 ·have B0 := hHd (Box.new w 172 #[.int .u64 q, .bool true, .string s])
  have K0 := hHd ((Kp.refl (fun _ => False) w).alloc (.cells #[.int .u64 q, .bool true, .string s] 172))
  go_enter Tryz.func156, Tryz.ntmps156
  go_upto_region 6 with fail
  generalize w.alloc (.cells #[.int .u64 q, .bool true, .string s] 172) = w0 at *
  refine wp_region_held_drew (S := fun v => v.cell? ⟨w.heap.size, 0, none⟩ = some (.int .u64 q) /\ v.cell? ⟨w.heap.size, 1, none⟩ = some (.bool true) /\ v.cell? ⟨w.heap.size, 2, none⟩ = some (.string s)) (by kernel_rfl) (sh_cells B0.out) (fun hHeld => ?_)
  refine tk 1 (h := ?_)
  refine tk 2 (h := ?_)
  refine tk 4 (h := ?_)
  refine tk 6 (h := ?_)
  refine tk 7 (h := ?_)
  refine tk 8 (h := ?_)
  refine tk 9 (h := ?_)
  refine rd 0 (h := fun K hK => ?_)
  go_simp
  have hlt := B0.out.lt
  refine (new_any (fun k => w.heap.size + 1 <= k) w0.drew hlt).mono ?_
  rintro e w1 ⟨rfl, hp, hk⟩
  have P1 := hHd (pk_of hp)
  have B1 := hHd ((B0.out.drew).kp hk (fun e => e))
  have K1 := hHd (K0.out.drew.trans hk)
  generalize Value.pointer (some ⟨w0.drew.heap.size, 0, none⟩) = p at *
  clear hp hk hlt
  go_wp2_with fail
  refine hK.out _ _ (sh_cells B1.out) (fun hHeld11 => ?_)
  clear hK K
  try simp only [Act.put, sIa, sI0, sI1]
  refine rd 3 (h := fun K hK => ?_)
  go_simp
  have hFN := fnew (w := w) (w' := w1) B1.out.lt
  have hcall := put_fine8 P1.out hFN q hq (by decide)
  try rw [show ((2 : Nat) : Int) = 2 from rfl] at hcall
  refine hcall.mono ?_
  clear hcall
  rintro e w2 ⟨rfl, hp, hk⟩
  have P2 := hHd hp
  have B2 := hHd (B1.out.kp hk (fun e => by omega))
  have K2 := hHd (K1.out.trans_new hk (fun b e => .inl (by omega)))
  clear hp hk hFN
  go_wp2_with fail
  refine hK.out _ _ (sh_cells B2.out) (fun hHeld12 => ?_)
  clear hK K
  try simp only [Act.put, sIa, sI0, sI1]
  refine rd 5 (h := fun K hK => ?_)
  go_simp
  have hFN := fnew (w := w) (w' := w2) B2.out.lt
  have hcall := put_fine1 P2.out hFN 2 (by decide) (by simp [putS, beN_length])
  try rw [show ((2 : Nat) : Int) = 2 from rfl] at hcall
  refine hcall.mono ?_
  clear hcall
  rintro e w3 ⟨rfl, hp, hk⟩
  have P3 := hHd hp
  have B3 := hHd (B2.out.kp hk (fun e => by omega))
  have K3 := hHd (K2.out.trans_new hk (fun b e => .inl (by omega)))
  clear hp hk hFN
  go_wp2_with fail
  refine hK.out _ _ (sh_cells B3.out) (fun hHeld13 => ?_)
  clear hK K
  try simp only [Act.put, sIa, sI0, sI1]
  refine rd 10 (h := fun K hK => ?_)
  go_simp
  have hFN := fnew (w := w) (w' := w3) B3.out.lt
  have hcall := put_fine2 P3.out hFN s.size (by omega) (by simp [putS, beN_length])
  try rw [show ((2 : Nat) : Int) = 2 from rfl] at hcall
  refine hcall.mono ?_
  clear hcall
  rintro e w4 ⟨rfl, hp, hk⟩
  have P4 := hHd hp
  have B4 := hHd (B3.out.kp hk (fun e => by omega))
  have K4 := hHd (K3.out.trans_new hk (fun b e => .inl (by omega)))
  clear hp hk hFN
  go_wp2_with fail
  refine hK.out _ _ (sh_cells B4.out) (fun hHeld14 => ?_)
  clear hK K
  try simp only [Act.put, sIa, sI0, sI1]
  refine tk 11 (h := ?_)
  refine wpAnyH_done (by kernel_rfl) ?_ _
  go_upto_region 7 with fail
  refine wp_region_held_drew (S := fun v => v.cell? ⟨w.heap.size, 0, none⟩ = some (.int .u64 q) /\ v.cell? ⟨w.heap.size, 1, none⟩ = some (.bool true) /\ v.cell? ⟨w.heap.size, 2, none⟩ = some (.string s)) (by kernel_rfl) (sh_cells B4.out) (fun hHeld => ?_)
  refine tk 0 (h := ?_)
  refine tk 1 (h := ?_)
  refine tk 2 (h := ?_)
  refine tk 4 (h := ?_)
  refine tk 5 (h := ?_)
  refine tk 6 (h := ?_)
  refine tk 7 (h := ?_)
  refine rd 3 (h := fun K hK => ?_)
  have P5 := hHd (P4.out.still (Kp.refl _ w4).drew)
  have B5 := hHd (B4.out.drew)
  have K5 := hHd (K4.out.drew)
  generalize w4.drew = w5 at *
  go_simp
  have hFN := fnew (w := w) (w' := w5) B5.out.lt
  refine (text_any P5.out hFN s (by rw [put_len11]; omega)).mono ?_
  rintro e w6 ⟨rfl, hp, hk⟩
  have P6 := hHd hp
  have B6 := hHd (B5.out.kp hk (fun e => by omega))
  have K6 := hHd (K5.out.trans_new hk (fun b e => .inl (by omega)))
  clear hp hk hFN
  go_wp2_with fail
  refine hK.out _ _ (sh_cells B6.out) (fun hHeld15 => ?_)
  clear hK K
  try simp only [Act.put, sIa, sI0, sI1]
  refine rd 8 (h := fun K hK => ?_)
  go_simp
  rw [hsub.out]
  refine (Tryz.strings_Repeat ⟨#[0]⟩ c w6 (by omega) (by rw [show (⟨#[0]⟩ : ByteArray).size = 1 from rfl, Nat.one_mul]; omega)).mono ?_
  rintro e w7 ⟨rfl, hbl⟩
  have hk := (Kp.of_below hbl).fresh (fun _ => False)
  rw [show (⟨#[0]⟩ : ByteArray).data.toList = [0] from rfl, repeat_zero]
  have P7 := hHd (P6.out.still hk)
  have B7 := hHd (B6.out.kp hk (fun e => e))
  have K7 := hHd (K6.out.trans hk)
  clear hk hbl
  go_wp2_with fail
  refine hK.out _ _ (sh_cells B7.out) (fun hHeld16 => ?_)
  clear hK K
  try simp only [Act.put, sIa, sI0, sI1]
  refine rd 9 (h := fun K hK => ?_)
  go_simp
  have hFN := fnew (w := w) (w' := w7) B7.out.lt
  refine (text_any P7.out hFN ⟨(List.replicate c (0 : UInt8)).toArray⟩ (by rw [put_len, put_len11, zero_size]; omega)).mono ?_
  rintro e w8 ⟨rfl, hp, hk⟩
  have P8 := hHd hp
  have B8 := hHd (B7.out.kp hk (fun e => by omega))
  have K8 := hHd (K7.out.trans_new hk (fun b e => .inl (by omega)))
  clear hp hk hFN
  go_wp2_with fail
  refine hK.out _ _ (sh_cells B8.out) (fun hHeld17 => ?_)
  clear hK K
  try simp only [Act.put, sIa, sI0, sI1]
  refine wpAnyH_done (by kernel_rfl) ?_ _
  all_goals
   go_wp2_with fail
   refine (bytes_any P8.out (by rw [put_len, put_len, put_len11, zero_size]; omega)).mono ?_
   rintro e w9 ⟨A, cc, rfl, h1, h2, hr, _, hk⟩
   have P9 := hHd (P8.out.still hk)
   have K9 := hHd (K8.out.trans hk)
   have B9 := hHd (B8.out.kp hk (fun e => e))
   have hb := body_put q true s c hc
   rw [show kindN true = 2 from rfl] at hb
   have hlen : (bodyL q true (tb s)).length = 508 := bodyL_length q true _ (by show s.size <= 497; omega)
   rw [hb] at h1 hr P9
   rw [hb]
   clear hb
   have HR := hHd hr
   obtain ⟨L, hL⟩ : ∃ L, bodyL q true (tb s) = L := ⟨_, rfl⟩
   have hsec : secL q true (tb s) = L ++ le4 (crcN L) := by rw [secL, hL]
   have HSEC := hHd hsec
   clear hsec
   rw [hL] at HR hlen P9 ⊢
   have HLEN := hHd hlen
   clear hr hL hk h1 hlen
   go_wp2_with fail
   refine (sum_any' A L cc w9 (by rw [HLEN.out]; decide) HR.out (HT.out.kp K9.out (fun e => e))).mono ?_
   rintro e w10 ⟨rfl, rfl⟩
   have hcl := crcN_lt L
   go_wp2_with fail
   refine (rev_any (crcN L) w9 hcl).mono ?_
   rintro e w10 ⟨rfl, rfl⟩
   have hrl := rev32_lt (crcN L)
   have hrv := beN_rev (crcN L)
   have hw2 : IntKind.u64.wrap ((rev32 (crcN L) : Nat) : Int) = ((rev32 (crcN L) : Nat) : Int) := IntWalk.u64_in _ (by omega)
   generalize rev32 (crcN L) = rv at *
   go_wp2_with fail
   have hFN := fnew (w := w) (w' := w9) B9.out.lt
   refine (put_fine4 P9.out hFN rv hrl (by rw [HLEN.out]; decide)).mono ?_
   rintro e w10 ⟨rfl, hp, hk⟩
   have P10 := hHd hp
   have K10 := hHd (K9.out.trans_new hk (fun b e => .inl (by omega)))
   clear hp hk hFN
   go_wp2_with fail
   rw [putS_ok, hrv] at P10
   have hl2 : (L ++ le4 (crcN L)).length = 512 := by rw [List.length_append, HLEN.out]; rfl
   obtain ⟨M, hM⟩ : ∃ M, L ++ le4 (crcN L) = M := ⟨_, rfl⟩
   rw [hM] at P10 hl2
   have HM := hHd hM
   clear hM
   refine (bytes_any_own P10.out (by rw [hl2]; decide) (by rw [hl2]; decide)).mono ?_
   rintro e w11 ⟨g2, c2, rfl, h1, h2', ho, hg, hk⟩
   rw [hl2]
   rw [hl2] at h1 ho
   have HO2 := hHd ho
   have HK2 := hHd hk
   clear ho hk
   go_wp2_with fail
   go_ret2
   refine ⟨g2, c2, rfl, h1, h2', ?_, Nat.le_trans K10.out.size hg, K10.out.trans HK2.out⟩
   rw [HSEC.out, HM.out]
   exact HO2.out
theorem hd_cells {w : World} {g : Nat} {t : TypeId} {h : Hd} {a : Nat} (hb : Box w g t (hcs h a).toArray) : w.cell? ⟨g, 0, none⟩ = some (.int .u64 h.g) /\ w.cell? ⟨g, 1, none⟩ = some (.int .u64 h.f) /\ w.cell? ⟨g, 2, none⟩ = some (.int .i64 h.n) /\ w.cell? ⟨g, 3, none⟩ = some (.string ⟨h.note.toArray⟩) := ⟨hb.cell 0, hb.cell 1, hb.cell 2, hb.cell 3⟩
theorem note_tb (l : List UInt8) : tb ⟨l.toArray⟩ = l := by show l.toArray.toList = l; simp
theorem hput_len (h : Hd) : (putS (putS (putS (putS [] 0 (beN 8 h.g)) 0 (beN 8 h.f)) 0 (beN 2 h.n)) 0 (UInt8.ofNat (⟨h.note.toArray⟩ : ByteArray).size :: tb ⟨h.note.toArray⟩)).length = 19 + h.note.length := by
 rw [note_tb]; simp [putS, beN_length]; omega
theorem hbody_put (h : Hd) (c : Nat) (hc : h.note.length + c = 489) : putS (putS (putS (putS (putS [] 0 (beN 8 h.g)) 0 (beN 8 h.f)) 0 (beN 2 h.n)) 0 (UInt8.ofNat (⟨h.note.toArray⟩ : ByteArray).size :: tb ⟨h.note.toArray⟩)) 0 (tb ⟨(List.replicate c (0 : UInt8)).toArray⟩) = hbody h := by
 have e2 : c = 489 - h.note.length := by omega
 rw [note_tb, note_tb, note_size]
 simp only [putS_ok, List.nil_append, hbody, e2]
theorem hbytes_any (h : Hd) (a : Nat) (w : World) (ok : h.ok) (ht : Tbl w) :
  Calls Tryz.prog 148 #[.agg (hcs h a).toArray] w fun e w' => ∃ g c, e = .returned (.slice (some ⟨g, 0, none⟩) 512 c) /\ 512 <= c /\ c <= maxLen /\ w'.ownsRow 0 5 1 (.slice (some ⟨g, 0, none⟩) 512 c) 512 (bcs (hsec h)) /\ w.heap.size <= g /\ Kp (fun _ => False) w w' := by
 obtain ⟨hg, hf, hlo, hhi, hnote⟩ := ok
 obtain ⟨c, hc⟩ : ∃ c : Nat, h.note.length + c = 489 := ⟨489 - h.note.length, by omega⟩
 have HT := hHd ht
 have HNS := hHd (note_size h.note)
 have hwn : IntKind.u64.wrap (h.n : Int) = h.n := IntWalk.u64_in _ (by omega)
 have hsub := hHd (show IntKind.i64.wrap ((508 : Int) - ((19 + h.note.length : Nat) : Int)) = (c : Int) by rw [IntWalk.i64_in _ (by omega)]; omega)
 clear ht
 have B0 := hHd (Box.new w 122 (hcs h a).toArray)
 have K0 := hHd ((Kp.refl (fun _ => False) w).alloc (.cells (hcs h a).toArray 122))
 go_enter Tryz.func148, Tryz.ntmps148
 go_upto_region 1 with fail
 generalize w.alloc (.cells (hcs h a).toArray 122) = w0 at *
 refine wp_region_held_drew (S := fun v => v.cell? ⟨w.heap.size, 0, none⟩ = some (.int .u64 h.g) /\ v.cell? ⟨w.heap.size, 1, none⟩ = some (.int .u64 h.f) /\ v.cell? ⟨w.heap.size, 2, none⟩ = some (.int .i64 h.n) /\ v.cell? ⟨w.heap.size, 3, none⟩ = some (.string ⟨h.note.toArray⟩)) (by kernel_rfl) (hd_cells B0.out) (fun hHeld => ?_)
 refine tk 1 (h := ?_)
 refine tk 2 (h := ?_)
 refine tk 4 (h := ?_)
 refine tk 5 (h := ?_)
 refine tk 7 (h := ?_)
 refine tk 8 (h := ?_)
 refine tk 9 (h := ?_)
 refine tk 11 (h := ?_)
 refine tk 12 (h := ?_)
 refine rd 0 (h := fun K hK => ?_)
 go_simp
 have hlt := B0.out.lt
 refine (new_any (fun k => w.heap.size + 1 <= k) w0.drew hlt).mono ?_
 rintro e w1 ⟨rfl, hp, hk⟩
 have P1 := hHd (pk_of hp)
 have B1 := hHd ((B0.out.drew).kp hk (fun e => e))
 have K1 := hHd (K0.out.drew.trans hk)
 generalize Value.pointer (some ⟨w0.drew.heap.size, 0, none⟩) = p at *
 clear hp hk hlt
 go_wp2_with fail
 refine hK.out _ _ (hd_cells B1.out) (fun hHeld1 => ?_)
 clear hK K
 try simp only [Act.put, sIa, sI0, sI1]
 refine rd 3 (h := fun K hK => ?_)
 go_simp
 have hFN := fnew (w := w) (w' := w1) B1.out.lt
 have hcall := put_fine8 P1.out hFN h.g hg (by decide)
 refine hcall.mono ?_
 clear hcall
 rintro e w2 ⟨rfl, hp, hk⟩
 have P2 := hHd hp
 have B2 := hHd (B1.out.kp hk (fun e => by omega))
 have K2 := hHd (K1.out.trans_new hk (fun b e => .inl (by omega)))
 clear hp hk hFN
 go_wp2_with fail
 refine hK.out _ _ (hd_cells B2.out) (fun hHeld2 => ?_)
 clear hK K
 try simp only [Act.put, sIa, sI0, sI1]
 refine rd 6 (h := fun K hK => ?_)
 go_simp
 have hFN := fnew (w := w) (w' := w2) B2.out.lt
 have hcall := put_fine8 P2.out hFN h.f hf (by simp [putS, beN_length])
 refine hcall.mono ?_
 clear hcall
 rintro e w3 ⟨rfl, hp, hk⟩
 have P3 := hHd hp
 have B3 := hHd (B2.out.kp hk (fun e => by omega))
 have K3 := hHd (K2.out.trans_new hk (fun b e => .inl (by omega)))
 clear hp hk hFN
 go_wp2_with fail
 refine hK.out _ _ (hd_cells B3.out) (fun hHeld3 => ?_)
 clear hK K
 try simp only [Act.put, sIa, sI0, sI1]
 refine rd 10 (h := fun K hK => ?_)
 go_simp
 have hFN := fnew (w := w) (w' := w3) B3.out.lt
 have hcall := put_fine2 P3.out hFN h.n (by omega) (by simp [putS, beN_length])
 refine hcall.mono ?_
 clear hcall
 rintro e w4 ⟨rfl, hp, hk⟩
 have P4 := hHd hp
 have B4 := hHd (B3.out.kp hk (fun e => by omega))
 have K4 := hHd (K3.out.trans_new hk (fun b e => .inl (by omega)))
 clear hp hk hFN
 go_wp2_with fail
 refine hK.out _ _ (hd_cells B4.out) (fun hHeld4 => ?_)
 clear hK K
 try simp only [Act.put, sIa, sI0, sI1]
 refine rd 13 (h := fun K hK => ?_)
 go_simp
 have hFN := fnew (w := w) (w' := w4) B4.out.lt
 have hcall := name_fine P4.out hFN ⟨h.note.toArray⟩ (by rw [HNS.out]; omega) (by rw [HNS.out]; simp [putS, beN_length]; omega)
 refine hcall.mono ?_
 clear hcall
 rintro e w5 ⟨rfl, hp, hk⟩
 have P5 := hHd hp
 have B5 := hHd (B4.out.kp hk (fun e => by omega))
 have K5 := hHd (K4.out.trans_new hk (fun b e => .inl (by omega)))
 clear hp hk hFN
 go_wp2_with fail
 refine hK.out _ _ (hd_cells B5.out) (fun hHeld5 => ?_)
 clear hK K
 try simp only [Act.put, sIa, sI0, sI1]
 refine tk 14 (h := ?_)
 refine wpAnyH_done (by kernel_rfl) ?_ _
 go_wp2_with fail
 have hlen := hput_len h
 refine (bytes_any P5.out (by rw [hlen]; omega)).mono ?_
 rintro e w6 ⟨A6, c6, rfl, _, _, _, _, hk⟩
 have P6 := hHd (P5.out.still hk)
 have K6 := hHd (K5.out.trans hk)
 have B6 := hHd (B5.out.kp hk (fun e => e))
 rw [hlen]
 have HLN := hHd hlen
 have HC := hHd hc
 have hcb : c <= 489 := by omega
 clear hk hlen hc hHeld hHeld1 hHeld2 hHeld3 hHeld4 hHeld5
 go_wp2_with fail
 rw [show ((508 : Int) - (19 + (h.note.length : Int))) = (c : Int) by have := HC.out; omega]
 refine (Tryz.strings_Repeat ⟨#[0]⟩ c w6 (by omega) (by rw [show (⟨#[0]⟩ : ByteArray).size = 1 from rfl, Nat.one_mul]; omega)).mono ?_
 rintro e w7 ⟨rfl, hbl⟩
 have hk := (Kp.of_below hbl).fresh (fun _ => False)
 rw [show (⟨#[0]⟩ : ByteArray).data.toList = [0] from rfl, repeat_zero]
 have P7 := hHd (P6.out.still hk)
 have B7 := hHd (B6.out.kp hk (fun e => e))
 have K7 := hHd (K6.out.trans hk)
 clear hk hbl
 go_wp2_with fail
 have hFN := fnew (w := w) (w' := w7) B7.out.lt
 refine (text_any P7.out hFN ⟨(List.replicate c (0 : UInt8)).toArray⟩ (by rw [HLN.out, zero_size]; omega)).mono ?_
 rintro e w8 ⟨rfl, hp, hk⟩
 have P8 := hHd hp
 have B8 := hHd (B7.out.kp hk (fun e => by omega))
 have K8 := hHd (K7.out.trans_new hk (fun b e => .inl (by omega)))
 clear hp hk hFN
 go_wp2_with fail
 have hlen : (hbody h).length = 508 := hbody_length h hnote
 rw [hbody_put h c HC.out] at P8
 obtain ⟨L, hL⟩ : ∃ L, hbody h = L := ⟨_, rfl⟩
 have hsec : hsec h = L ++ beN 4 (crcN L) := by rw [hsec, hL]
 rw [hL] at hlen P8
 have HSEC := hHd hsec
 have HLEN := hHd hlen
 clear hsec hL hlen
 refine (bytes_any P8.out (by rw [HLEN.out]; decide)).mono ?_
 rintro e w9 ⟨A9, c9, rfl, h91, h92, hr, _, hk⟩
 have P9 := hHd (P8.out.still hk)
 have K9 := hHd (K8.out.trans hk)
 have B9 := hHd (B8.out.kp hk (fun e => e))
 have HR := hHd hr
 clear hr hk h91 h92
 go_wp2_with fail
 refine (sum_any' A9 L c9 w9 (by rw [HLEN.out]; decide) HR.out (HT.out.kp K9.out (fun e => e))).mono ?_
 rintro e w10 ⟨rfl, rfl⟩
 have hcl := crcN_lt L
 generalize crcN L = cr at *
 go_wp2_with fail
 have hFN := fnew (w := w) (w' := w9) B9.out.lt
 refine (put_fine4 P9.out hFN cr hcl (by rw [HLEN.out]; decide)).mono ?_
 rintro e w10 ⟨rfl, hp, hk⟩
 have P10 := hHd hp
 have K10 := hHd (K9.out.trans_new hk (fun b e => .inl (by omega)))
 clear hp hk hFN
 go_wp2_with fail
 rw [putS_ok] at P10
 have hl2 : (L ++ beN 4 cr).length = 512 := by rw [List.length_append, HLEN.out, beN_length]
 obtain ⟨M, hM⟩ : ∃ M, L ++ beN 4 cr = M := ⟨_, rfl⟩
 rw [hM] at P10 hl2
 have HM := hHd hM
 clear hM
 refine (bytes_any_own P10.out (by rw [hl2]; decide) (by rw [hl2]; decide)).mono ?_
 rintro e w11 ⟨g2, c2, rfl, h1, h2', ho, hgg, hk⟩
 rw [hl2]
 rw [hl2] at h1 ho
 have HO2 := hHd ho
 have HK2 := hHd hk
 clear ho hk
 go_wp2_with fail
 go_ret
 refine ⟨g2, c2, rfl, h1, h2', ?_, Nat.le_trans K10.out.size hgg, K10.out.trans HK2.out⟩
 rw [HSEC.out, HM.out]
 exact HO2.out
end Go.Proofs.YtepaeliamhjgiaaGreatDoor
