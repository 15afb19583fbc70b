/- The law of pages, part 11 of 55: Shelf ShPut ShTakeA. -/
import Derived.Shelf.Strings.Builder1
import Derived.Shelf.Strings.Repeat
import Derived.Test.YtepaeliamhjgiaaGreatDoorProg
import Derived.Test.YtepaeliamhjgiaaGreatDoorMu5
import Derived.Test.YtepaeliamhjgiaaGreatDoorMu9
import Derived.Test.YtepaeliamhjgiaaGreatDoorMu10
import Derived.Deep.RegionHeld
import Derived.Test.YtepaeliamhjgiaaGreatDoorMu1
set_option maxHeartbeats 16000000
set_option maxRecDepth 100000
namespace Go.Proofs.YtepaeliamhjgiaaGreatDoor
open Go.Shelf
def Tryz.lays105_ren : Go.Shelf.Ren := ⟨fun | 105 => 164 | 212 => 177 | 99 => 178 | 165 => 179 | 166 => 137 | 170 => 180 | 169 => 138 | 263 => 187 | 264 => 188 | 206 => 189 | 240 => 159 | 241 => 190 | 276 => 173 | 277 => 202 | n => n, fun | 9 => 9 | 3 => 3 | 4 => 4 | 20 => 20 | 0 => 0 | 46 => 204 | 109 => 228 | 5 => 5 | 72 => 178 | 76 => 182 | 51 => 217 | 146 => 237 | 53 => 79 | 148 => 239 | 70 => 176 | 37 => 50 | 75 => 181 | 127 => 210 | 164 => 224 | 80 => 48 | n => n, fun | n => n⟩
theorem Tryz.lays105 : Go.Proofs.Lays.n105 Tryz.prog Tryz.lays105_ren := {
 mixed := by kernel_rfl
 f99 := Tryz.func178.trans (congrArg some (by kernel_rfl))
 f105 := Tryz.func164.trans (congrArg some (by kernel_rfl))
 f165 := Tryz.func179.trans (congrArg some (by kernel_rfl))
 f166 := Tryz.func137.trans (congrArg some (by kernel_rfl))
 f169 := Tryz.func138.trans (congrArg some (by kernel_rfl))
 f170 := Tryz.func180.trans (congrArg some (by kernel_rfl))
 f206 := Tryz.func189.trans (congrArg some (by kernel_rfl))
 f212 := Tryz.func177.trans (congrArg some (by kernel_rfl))
 f240 := Tryz.func159.trans (congrArg some (by kernel_rfl))
 f241 := Tryz.func190.trans (congrArg some (by kernel_rfl))
 f263 := Tryz.func187.trans (congrArg some (by kernel_rfl))
 f264 := Tryz.func188.trans (congrArg some (by kernel_rfl))
 f276 := Tryz.func173.trans (congrArg some (by kernel_rfl))
 f277 := Tryz.func202.trans (congrArg some (by kernel_rfl))
 t0 := Tryz.underlying0
 a0 := Tryz.isAgg0
 z0 := Tryz.sizeOf0
 v0 := Tryz.zeroValue0
 t3 := Tryz.underlying3
 a3 := Tryz.isAgg3
 z3 := Tryz.sizeOf3
 v3 := Tryz.zeroValue3
 t4 := Tryz.underlying4
 a4 := Tryz.isAgg4
 z4 := Tryz.sizeOf4
 v4 := Tryz.zeroValue4
 t5 := Tryz.underlying5
 a5 := Tryz.isAgg5
 z5 := Tryz.sizeOf5
 v5 := Tryz.zeroValue5
 t9 := Tryz.underlying9
 a9 := Tryz.isAgg9
 z9 := Tryz.sizeOf9
 v9 := Tryz.zeroValue9
 t20 := Tryz.underlying20
 a20 := Tryz.isAgg20
 z20 := Tryz.sizeOf20
 v20 := Tryz.zeroValue20
 t37 := Tryz.underlying50
 a37 := Tryz.isAgg50
 z37 := Tryz.sizeOf50
 v37 := Tryz.zeroValue50
 t46 := Tryz.underlying204
 a46 := Tryz.isAgg204
 z46 := Tryz.sizeOf204
 v46 := Tryz.zeroValue204
 t51 := Tryz.underlying217
 a51 := Tryz.isAgg217
 z51 := Tryz.sizeOf217
 v51 := Tryz.zeroValue217
 t53 := Tryz.underlying79
 a53 := Tryz.isAgg79
 z53 := Tryz.sizeOf79
 v53 := Tryz.zeroValue79
 t70 := Tryz.underlying176
 a70 := Tryz.isAgg176
 z70 := Tryz.sizeOf176
 v70 := Tryz.zeroValue176
 t72 := Tryz.underlying178
 a72 := Tryz.isAgg178
 z72 := Tryz.sizeOf178
 v72 := Tryz.zeroValue178
 t75 := Tryz.underlying181
 a75 := Tryz.isAgg181
 z75 := Tryz.sizeOf181
 v75 := Tryz.zeroValue181
 t76 := Tryz.underlying182
 a76 := Tryz.isAgg182
 z76 := Tryz.sizeOf182
 v76 := Tryz.zeroValue182
 t109 := Tryz.underlying228
 a109 := Tryz.isAgg228
 z109 := Tryz.sizeOf228
 v109 := Tryz.zeroValue228
 t127 := Tryz.underlying210
 a127 := Tryz.isAgg210
 z127 := Tryz.sizeOf210
 v127 := Tryz.zeroValue210
 t146 := Tryz.underlying237
 a146 := Tryz.isAgg237
 z146 := Tryz.sizeOf237
 v146 := Tryz.zeroValue237
 t148 := Tryz.underlying239
 a148 := Tryz.isAgg239
 z148 := Tryz.sizeOf239
 v148 := Tryz.zeroValue239
 t164 := Tryz.underlying224
 a164 := Tryz.isAgg224
 z164 := Tryz.sizeOf224
 v164 := Tryz.zeroValue224 }
theorem Tryz.Builder_Extra_105 : Builder.Extra Tryz.prog Tryz.lays105_ren := {
 sizeBuilder := by kernel_rfl
 liesBuilder := by kernel_rfl
 t5 := Tryz.underlying5
 a5 := Tryz.isAgg5
 z5 := Tryz.sizeOf5
 v5 := Tryz.zeroValue5
 infoByte := by kernel_rfl
 cellsByte := by kernel_rfl
 sizeByte := by kernel_rfl
 neB5 := by decide }
open Go.RowKit Go.Lib in
theorem Tryz.strings_Repeat (s : ByteArray) (c : Nat) (w : World) (hc : c <= 9223372036854775807) (hlen : s.size * c <= 140737488355328) :
  Calls Tryz.prog 164 #[.string s, .int .i64 c] w fun e w' => e = .returned (.string ⟨(Lib.repeatL s.data.toList c).toArray⟩) /\ Below w.heap.size w w' := Any.strings_Repeat Tryz.lays105 Tryz.Builder_Extra_105 s c w hc hlen
end Go.Proofs.YtepaeliamhjgiaaGreatDoor
namespace Go.Proofs.YtepaeliamhjgiaaGreatDoor
open Go.RowKit
theorem sh_cells {w : World} {g : Nat} {q : Nat} {b : Bool} {s : ByteArray} (h : Box w g 172 #[.int .u64 q, .bool b, .string s]) : w.cell? ⟨g, 0, none⟩ = some (.int .u64 q) /\ w.cell? ⟨g, 1, none⟩ = some (.bool b) /\ w.cell? ⟨g, 2, none⟩ = some (.string s) := ⟨h.cell 0, h.cell 1, h.cell 2⟩
theorem pk_of {F : Nat -> Prop} {w : World} {b : Nat} {l : List UInt8} (h : Pkr F w b l 0) : Pk F w (.pointer (some ⟨b, 0, none⟩)) l 0 := ⟨fun h => absurd rfl h, .inr ⟨b, rfl, h⟩⟩
theorem putS_ok (l s : List UInt8) : putS l 0 s = l ++ s := rfl
theorem fnew {w w' : World} (h : w.heap.size < w'.heap.size) : ∀ k, w'.heap.size <= k -> w.heap.size + 1 <= k := fun _ hk => Nat.le_trans h hk
theorem put_len11 (q k n : Nat) : (putS (putS (putS [] 0 (beN 8 q)) 0 (beN 1 k)) 0 (beN 2 n)).length = 11 := by simp [putS, beN_length]
theorem put_len (l : List UInt8) (s : ByteArray) : (putS l 0 (tb s)).length = l.length + s.size := by rw [putS_ok, List.length_append]; rfl
theorem zero_size (c : Nat) : (⟨(List.replicate c (0 : UInt8)).toArray⟩ : ByteArray).size = c := by show (List.replicate c (0 : UInt8)).toArray.size = c; simp
theorem body_put (q : Nat) (b : Bool) (s : ByteArray) (c : Nat) (h : s.size + c = 497) : putS (putS (putS (putS (putS [] 0 (beN 8 q)) 0 (beN 1 (kindN b))) 0 (beN 2 s.size)) 0 (tb s)) 0 (tb ⟨(List.replicate c (0 : UInt8)).toArray⟩) = bodyL q b (tb s) := by
 have e2 : c = 497 - (tb s).length := by have : (tb s).length = s.size := rfl; omega
 simp only [putS_ok, List.nil_append, bodyL, e2]
 rfl
abbrev sv (q : Nat) (b : Bool) (s : ByteArray) : Value := .agg #[.int .u64 q, .bool b, .string s]
theorem put_long (q : Nat) (b : Bool) (s : ByteArray) (w : World) (hs : 497 < s.size) :
  Calls Tryz.prog 156 #[sv q b s] w fun e w' => e = .returned (.tuple #[.slice none 0 0, .int .i64 6]) /\ Kp (fun _ => False) w w' := by
 have hd : decide ((497 : Int) < s.size) = true := by simp; omega
 go_enter Tryz.func156, Tryz.ntmps156
 go_wp2_with fail
 go_ret2
 exact ⟨rfl, (Kp.refl _ w).alloc _⟩
theorem put_fits (q : Nat) (b : Bool) (s : ByteArray) (w : World) (hq : q < 18446744073709551616) (hs : s.size <= 497) (ht : Tbl w) :
  Calls Tryz.prog 156 #[sv q b s] w fun e w' => ∃ A c, e = .returned (.tuple #[.slice A 512 c, .int .i64 0]) /\ 512 <= c /\ c <= maxLen /\ Rd w' A (secL q b (tb s)) /\ (∀ a, A = some a -> w.heap.size <= a.block) /\ Kp (fun _ => False) w w' := by
 have hd : decide ((497 : Int) < s.size) = false := by simp; omega
 have hw1 : IntKind.u64.wrap (s.size : Int) = s.size := IntWalk.u64_in _ (by omega)
 obtain ⟨c, hc⟩ : ∃ c : Nat, s.size + c = 497 := ⟨497 - s.size, by omega⟩
 have hsub := hHd (show IntKind.i64.wrap ((497 : Int) - s.size) = (c : Int) by rw [IntWalk.i64_in _ (by omega)]; omega)
 have HT := hHd ht
 clear ht
 cases b
 ·have B0 := hHd (Box.new w 172 #[.int .u64 q, .bool false, .string s])
  have K0 := hHd ((Kp.refl (fun _ => False) w).alloc (.cells #[.int .u64 q, .bool false, .string s] 172))
  go_enter Tryz.func156, Tryz.ntmps156
  go_upto_region 6 with fail
  generalize w.alloc (.cells #[.int .u64 q, .bool false, .string s] 172) = w0 at *
  refine wp_region_held_drew (S := fun v => v.cell? ⟨w.heap.size, 0, none⟩ = some (.int .u64 q) /\ v.cell? ⟨w.heap.size, 1, none⟩ = some (.bool false) /\ v.cell? ⟨w.heap.size, 2, none⟩ = some (.string s)) (by kernel_rfl) (sh_cells B0.out) (fun hHeld => ?_)
  refine tk 1 (h := ?_)
  refine tk 2 (h := ?_)
  refine tk 4 (h := ?_)
  refine tk 6 (h := ?_)
  refine tk 7 (h := ?_)
  refine tk 8 (h := ?_)
  refine tk 9 (h := ?_)
  refine rd 0 (h := fun K hK => ?_)
  go_simp
  have hlt := B0.out.lt
  refine (new_any (fun k => w.heap.size + 1 <= k) w0.drew hlt).mono ?_
  rintro e w1 ⟨rfl, hp, hk⟩
  have P1 := hHd (pk_of hp)
  have B1 := hHd ((B0.out.drew).kp hk (fun e => e))
  have K1 := hHd (K0.out.drew.trans hk)
  generalize Value.pointer (some ⟨w0.drew.heap.size, 0, none⟩) = p at *
  clear hp hk hlt
  go_wp2_with fail
  refine hK.out _ _ (sh_cells B1.out) (fun hHeld1 => ?_)
  clear hK K
  try simp only [Act.put, sIa, sI0, sI1]
  refine rd 3 (h := fun K hK => ?_)
  go_simp
  have hFN := fnew (w := w) (w' := w1) B1.out.lt
  have hcall := put_fine8 P1.out hFN q hq (by decide)
  try rw [show ((1 : Nat) : Int) = 1 from rfl] at hcall
  refine hcall.mono ?_
  clear hcall
  rintro e w2 ⟨rfl, hp, hk⟩
  have P2 := hHd hp
  have B2 := hHd (B1.out.kp hk (fun e => by omega))
  have K2 := hHd (K1.out.trans_new hk (fun b e => .inl (by omega)))
  clear hp hk hFN
  go_wp2_with fail
  refine hK.out _ _ (sh_cells B2.out) (fun hHeld2 => ?_)
  clear hK K
  try simp only [Act.put, sIa, sI0, sI1]
  refine rd 5 (h := fun K hK => ?_)
  go_simp
  have hFN := fnew (w := w) (w' := w2) B2.out.lt
  have hcall := put_fine1 P2.out hFN 1 (by decide) (by simp [putS, beN_length])
  try rw [show ((1 : Nat) : Int) = 1 from rfl] at hcall
  refine hcall.mono ?_
  clear hcall
  rintro e w3 ⟨rfl, hp, hk⟩
  have P3 := hHd hp
  have B3 := hHd (B2.out.kp hk (fun e => by omega))
  have K3 := hHd (K2.out.trans_new hk (fun b e => .inl (by omega)))
  clear hp hk hFN
  go_wp2_with fail
  refine hK.out _ _ (sh_cells B3.out) (fun hHeld3 => ?_)
  clear hK K
  try simp only [Act.put, sIa, sI0, sI1]
  refine rd 10 (h := fun K hK => ?_)
  go_simp
  have hFN := fnew (w := w) (w' := w3) B3.out.lt
  have hcall := put_fine2 P3.out hFN s.size (by omega) (by simp [putS, beN_length])
  try rw [show ((1 : Nat) : Int) = 1 from rfl] at hcall
  refine hcall.mono ?_
  clear hcall
  rintro e w4 ⟨rfl, hp, hk⟩
  have P4 := hHd hp
  have B4 := hHd (B3.out.kp hk (fun e => by omega))
  have K4 := hHd (K3.out.trans_new hk (fun b e => .inl (by omega)))
  clear hp hk hFN
  go_wp2_with fail
  refine hK.out _ _ (sh_cells B4.out) (fun hHeld4 => ?_)
  clear hK K
  try simp only [Act.put, sIa, sI0, sI1]
  refine tk 11 (h := ?_)
  refine wpAnyH_done (by kernel_rfl) ?_ _
  go_upto_region 7 with fail
  refine wp_region_held_drew (S := fun v => v.cell? ⟨w.heap.size, 0, none⟩ = some (.int .u64 q) /\ v.cell? ⟨w.heap.size, 1, none⟩ = some (.bool false) /\ v.cell? ⟨w.heap.size, 2, none⟩ = some (.string s)) (by kernel_rfl) (sh_cells B4.out) (fun hHeld => ?_)
  refine tk 0 (h := ?_)
  refine tk 1 (h := ?_)
  refine tk 2 (h := ?_)
  refine tk 4 (h := ?_)
  refine tk 5 (h := ?_)
  refine tk 6 (h := ?_)
  refine tk 7 (h := ?_)
  refine rd 3 (h := fun K hK => ?_)
  have P5 := hHd (P4.out.still (Kp.refl _ w4).drew)
  have B5 := hHd (B4.out.drew)
  have K5 := hHd (K4.out.drew)
  generalize w4.drew = w5 at *
  go_simp
  have hFN := fnew (w := w) (w' := w5) B5.out.lt
  refine (text_any P5.out hFN s (by rw [put_len11]; omega)).mono ?_
  rintro e w6 ⟨rfl, hp, hk⟩
  have P6 := hHd hp
  have B6 := hHd (B5.out.kp hk (fun e => by omega))
  have K6 := hHd (K5.out.trans_new hk (fun b e => .inl (by omega)))
  clear hp hk hFN
  go_wp2_with fail
  refine hK.out _ _ (sh_cells B6.out) (fun hHeld5 => ?_)
  clear hK K
  try simp only [Act.put, sIa, sI0, sI1]
  refine rd 8 (h := fun K hK => ?_)
  go_simp
  rw [hsub.out]
  refine (Tryz.strings_Repeat ⟨#[0]⟩ c w6 (by omega) (by rw [show (⟨#[0]⟩ : ByteArray).size = 1 from rfl, Nat.one_mul]; omega)).mono ?_
  rintro e w7 ⟨rfl, hbl⟩
  have hk := (Kp.of_below hbl).fresh (fun _ => False)
  rw [show (⟨#[0]⟩ : ByteArray).data.toList = [0] from rfl, repeat_zero]
  have P7 := hHd (P6.out.still hk)
  have B7 := hHd (B6.out.kp hk (fun e => e))
  have K7 := hHd (K6.out.trans hk)
  clear hk hbl
  go_wp2_with fail
  refine hK.out _ _ (sh_cells B7.out) (fun hHeld6 => ?_)
  clear hK K
  try simp only [Act.put, sIa, sI0, sI1]
  refine rd 9 (h := fun K hK => ?_)
  go_simp
  have hFN := fnew (w := w) (w' := w7) B7.out.lt
  refine (text_any P7.out hFN ⟨(List.replicate c (0 : UInt8)).toArray⟩ (by rw [put_len, put_len11, zero_size]; omega)).mono ?_
  rintro e w8 ⟨rfl, hp, hk⟩
  have P8 := hHd hp
  have B8 := hHd (B7.out.kp hk (fun e => by omega))
  have K8 := hHd (K7.out.trans_new hk (fun b e => .inl (by omega)))
  clear hp hk hFN
  go_wp2_with fail
  refine hK.out _ _ (sh_cells B8.out) (fun hHeld7 => ?_)
  clear hK K
  try simp only [Act.put, sIa, sI0, sI1]
  refine wpAnyH_done (by kernel_rfl) ?_ _
  all_goals
   go_wp2_with fail
   refine (bytes_any P8.out (by rw [put_len, put_len, put_len11, zero_size]; omega)).mono ?_
   rintro e w9 ⟨A, cc, rfl, h1, h2, hr, _, hk⟩
   have P9 := hHd (P8.out.still hk)
   have K9 := hHd (K8.out.trans hk)
   have B9 := hHd (B8.out.kp hk (fun e => e))
   have hb := body_put q false s c hc
   rw [show kindN false = 1 from rfl] at hb
   have hlen : (bodyL q false (tb s)).length = 508 := bodyL_length q false _ (by show s.size <= 497; omega)
   rw [hb] at h1 hr P9
   rw [hb]
   clear hb
   have HR := hHd hr
   obtain ⟨L, hL⟩ : ∃ L, bodyL q false (tb s) = L := ⟨_, rfl⟩
   have hsec : secL q false (tb s) = L ++ le4 (crcN L) := by rw [secL, hL]
   have HSEC := hHd hsec
   clear hsec
   rw [hL] at HR hlen P9 ⊢
   have HLEN := hHd hlen
   clear hr hL hk h1 hlen
   go_wp2_with fail
   refine (sum_any' A L cc w9 (by rw [HLEN.out]; decide) HR.out (HT.out.kp K9.out (fun e => e))).mono ?_
   rintro e w10 ⟨rfl, rfl⟩
   have hcl := crcN_lt L
   go_wp2_with fail
   refine (rev_any (crcN L) w9 hcl).mono ?_
   rintro e w10 ⟨rfl, rfl⟩
   have hrl := rev32_lt (crcN L)
   have hrv := beN_rev (crcN L)
   have hw2 : IntKind.u64.wrap ((rev32 (crcN L) : Nat) : Int) = ((rev32 (crcN L) : Nat) : Int) := IntWalk.u64_in _ (by omega)
   generalize rev32 (crcN L) = rv at *
   go_wp2_with fail
   have hFN := fnew (w := w) (w' := w9) B9.out.lt
   refine (put_fine4 P9.out hFN rv hrl (by rw [HLEN.out]; decide)).mono ?_
   rintro e w10 ⟨rfl, hp, hk⟩
   have P10 := hHd hp
   have K10 := hHd (K9.out.trans_new hk (fun b e => .inl (by omega)))
   clear hp hk hFN
   go_wp2_with fail
   rw [putS_ok, hrv] at P10
   have hl2 : (L ++ le4 (crcN L)).length = 512 := by rw [List.length_append, HLEN.out]; rfl
   obtain ⟨M, hM⟩ : ∃ M, L ++ le4 (crcN L) = M := ⟨_, rfl⟩
   rw [hM] at P10 hl2
   have HM := hHd hM
   clear hM
   refine (bytes_any P10.out (by rw [hl2]; decide)).mono ?_
   rintro e w11 ⟨A2, c2, rfl, h1, h2', hr, hb2, hk⟩
   rw [hl2]
   rw [hl2] at h1
   have HR2 := hHd hr
   have HK2 := hHd hk
   have HB2 := hHd hb2
   clear hr hk hb2
   go_wp2_with fail
   go_ret2
   refine ⟨A2, c2, rfl, h1, h2', ?_, fun a ha => Nat.le_trans K10.out.size (HB2.out a ha), K10.out.trans HK2.out⟩
   rw [HSEC.out, HM.out]
   exact HR2.out
 ·have B0 := hHd (Box.new w 172 #[.int .u64 q, .bool true, .string s])
  have K0 := hHd ((Kp.refl (fun _ => False) w).alloc (.cells #[.int .u64 q, .bool true, .string s] 172))
  go_enter Tryz.func156, Tryz.ntmps156
  go_upto_region 6 with fail
  generalize w.alloc (.cells #[.int .u64 q, .bool true, .string s] 172) = w0 at *
  refine wp_region_held_drew (S := fun v => v.cell? ⟨w.heap.size, 0, none⟩ = some (.int .u64 q) /\ v.cell? ⟨w.heap.size, 1, none⟩ = some (.bool true) /\ v.cell? ⟨w.heap.size, 2, none⟩ = some (.string s)) (by kernel_rfl) (sh_cells B0.out) (fun hHeld => ?_)
  refine tk 1 (h := ?_)
  refine tk 2 (h := ?_)
  refine tk 4 (h := ?_)
  refine tk 6 (h := ?_)
  refine tk 7 (h := ?_)
  refine tk 8 (h := ?_)
  refine tk 9 (h := ?_)
  refine rd 0 (h := fun K hK => ?_)
  go_simp
  have hlt := B0.out.lt
  refine (new_any (fun k => w.heap.size + 1 <= k) w0.drew hlt).mono ?_
  rintro e w1 ⟨rfl, hp, hk⟩
  have P1 := hHd (pk_of hp)
  have B1 := hHd ((B0.out.drew).kp hk (fun e => e))
  have K1 := hHd (K0.out.drew.trans hk)
  generalize Value.pointer (some ⟨w0.drew.heap.size, 0, none⟩) = p at *
  clear hp hk hlt
  go_wp2_with fail
  refine hK.out _ _ (sh_cells B1.out) (fun hHeld11 => ?_)
  clear hK K
  try simp only [Act.put, sIa, sI0, sI1]
  refine rd 3 (h := fun K hK => ?_)
  go_simp
  have hFN := fnew (w := w) (w' := w1) B1.out.lt
  have hcall := put_fine8 P1.out hFN q hq (by decide)
  try rw [show ((2 : Nat) : Int) = 2 from rfl] at hcall
  refine hcall.mono ?_
  clear hcall
  rintro e w2 ⟨rfl, hp, hk⟩
  have P2 := hHd hp
  have B2 := hHd (B1.out.kp hk (fun e => by omega))
  have K2 := hHd (K1.out.trans_new hk (fun b e => .inl (by omega)))
  clear hp hk hFN
  go_wp2_with fail
  refine hK.out _ _ (sh_cells B2.out) (fun hHeld12 => ?_)
  clear hK K
  try simp only [Act.put, sIa, sI0, sI1]
  refine rd 5 (h := fun K hK => ?_)
  go_simp
  have hFN := fnew (w := w) (w' := w2) B2.out.lt
  have hcall := put_fine1 P2.out hFN 2 (by decide) (by simp [putS, beN_length])
  try rw [show ((2 : Nat) : Int) = 2 from rfl] at hcall
  refine hcall.mono ?_
  clear hcall
  rintro e w3 ⟨rfl, hp, hk⟩
  have P3 := hHd hp
  have B3 := hHd (B2.out.kp hk (fun e => by omega))
  have K3 := hHd (K2.out.trans_new hk (fun b e => .inl (by omega)))
  clear hp hk hFN
  go_wp2_with fail
  refine hK.out _ _ (sh_cells B3.out) (fun hHeld13 => ?_)
  clear hK K
  try simp only [Act.put, sIa, sI0, sI1]
  refine rd 10 (h := fun K hK => ?_)
  go_simp
  have hFN := fnew (w := w) (w' := w3) B3.out.lt
  have hcall := put_fine2 P3.out hFN s.size (by omega) (by simp [putS, beN_length])
  try rw [show ((2 : Nat) : Int) = 2 from rfl] at hcall
  refine hcall.mono ?_
  clear hcall
  rintro e w4 ⟨rfl, hp, hk⟩
  have P4 := hHd hp
  have B4 := hHd (B3.out.kp hk (fun e => by omega))
  have K4 := hHd (K3.out.trans_new hk (fun b e => .inl (by omega)))
  clear hp hk hFN
  go_wp2_with fail
  refine hK.out _ _ (sh_cells B4.out) (fun hHeld14 => ?_)
  clear hK K
  try simp only [Act.put, sIa, sI0, sI1]
  refine tk 11 (h := ?_)
  refine wpAnyH_done (by kernel_rfl) ?_ _
  go_upto_region 7 with fail
  refine wp_region_held_drew (S := fun v => v.cell? ⟨w.heap.size, 0, none⟩ = some (.int .u64 q) /\ v.cell? ⟨w.heap.size, 1, none⟩ = some (.bool true) /\ v.cell? ⟨w.heap.size, 2, none⟩ = some (.string s)) (by kernel_rfl) (sh_cells B4.out) (fun hHeld => ?_)
  refine tk 0 (h := ?_)
  refine tk 1 (h := ?_)
  refine tk 2 (h := ?_)
  refine tk 4 (h := ?_)
  refine tk 5 (h := ?_)
  refine tk 6 (h := ?_)
  refine tk 7 (h := ?_)
  refine rd 3 (h := fun K hK => ?_)
  have P5 := hHd (P4.out.still (Kp.refl _ w4).drew)
  have B5 := hHd (B4.out.drew)
  have K5 := hHd (K4.out.drew)
  generalize w4.drew = w5 at *
  go_simp
  have hFN := fnew (w := w) (w' := w5) B5.out.lt
  refine (text_any P5.out hFN s (by rw [put_len11]; omega)).mono ?_
  rintro e w6 ⟨rfl, hp, hk⟩
  have P6 := hHd hp
  have B6 := hHd (B5.out.kp hk (fun e => by omega))
  have K6 := hHd (K5.out.trans_new hk (fun b e => .inl (by omega)))
  clear hp hk hFN
  go_wp2_with fail
  refine hK.out _ _ (sh_cells B6.out) (fun hHeld15 => ?_)
  clear hK K
  try simp only [Act.put, sIa, sI0, sI1]
  refine rd 8 (h := fun K hK => ?_)
  go_simp
  rw [hsub.out]
  refine (Tryz.strings_Repeat ⟨#[0]⟩ c w6 (by omega) (by rw [show (⟨#[0]⟩ : ByteArray).size = 1 from rfl, Nat.one_mul]; omega)).mono ?_
  rintro e w7 ⟨rfl, hbl⟩
  have hk := (Kp.of_below hbl).fresh (fun _ => False)
  rw [show (⟨#[0]⟩ : ByteArray).data.toList = [0] from rfl, repeat_zero]
  have P7 := hHd (P6.out.still hk)
  have B7 := hHd (B6.out.kp hk (fun e => e))
  have K7 := hHd (K6.out.trans hk)
  clear hk hbl
  go_wp2_with fail
  refine hK.out _ _ (sh_cells B7.out) (fun hHeld16 => ?_)
  clear hK K
  try simp only [Act.put, sIa, sI0, sI1]
  refine rd 9 (h := fun K hK => ?_)
  go_simp
  have hFN := fnew (w := w) (w' := w7) B7.out.lt
  refine (text_any P7.out hFN ⟨(List.replicate c (0 : UInt8)).toArray⟩ (by rw [put_len, put_len11, zero_size]; omega)).mono ?_
  rintro e w8 ⟨rfl, hp, hk⟩
  have P8 := hHd hp
  have B8 := hHd (B7.out.kp hk (fun e => by omega))
  have K8 := hHd (K7.out.trans_new hk (fun b e => .inl (by omega)))
  clear hp hk hFN
  go_wp2_with fail
  refine hK.out _ _ (sh_cells B8.out) (fun hHeld17 => ?_)
  clear hK K
  try simp only [Act.put, sIa, sI0, sI1]
  refine wpAnyH_done (by kernel_rfl) ?_ _
  all_goals
   go_wp2_with fail
   refine (bytes_any P8.out (by rw [put_len, put_len, put_len11, zero_size]; omega)).mono ?_
   rintro e w9 ⟨A, cc, rfl, h1, h2, hr, _, hk⟩
   have P9 := hHd (P8.out.still hk)
   have K9 := hHd (K8.out.trans hk)
   have B9 := hHd (B8.out.kp hk (fun e => e))
   have hb := body_put q true s c hc
   rw [show kindN true = 2 from rfl] at hb
   have hlen : (bodyL q true (tb s)).length = 508 := bodyL_length q true _ (by show s.size <= 497; omega)
   rw [hb] at h1 hr P9
   rw [hb]
   clear hb
   have HR := hHd hr
   obtain ⟨L, hL⟩ : ∃ L, bodyL q true (tb s) = L := ⟨_, rfl⟩
   have hsec : secL q true (tb s) = L ++ le4 (crcN L) := by rw [secL, hL]
   have HSEC := hHd hsec
   clear hsec
   rw [hL] at HR hlen P9 ⊢
   have HLEN := hHd hlen
   clear hr hL hk h1 hlen
   go_wp2_with fail
   refine (sum_any' A L cc w9 (by rw [HLEN.out]; decide) HR.out (HT.out.kp K9.out (fun e => e))).mono ?_
   rintro e w10 ⟨rfl, rfl⟩
   have hcl := crcN_lt L
   go_wp2_with fail
   refine (rev_any (crcN L) w9 hcl).mono ?_
   rintro e w10 ⟨rfl, rfl⟩
   have hrl := rev32_lt (crcN L)
   have hrv := beN_rev (crcN L)
   have hw2 : IntKind.u64.wrap ((rev32 (crcN L) : Nat) : Int) = ((rev32 (crcN L) : Nat) : Int) := IntWalk.u64_in _ (by omega)
   generalize rev32 (crcN L) = rv at *
   go_wp2_with fail
   have hFN := fnew (w := w) (w' := w9) B9.out.lt
   refine (put_fine4 P9.out hFN rv hrl (by rw [HLEN.out]; decide)).mono ?_
   rintro e w10 ⟨rfl, hp, hk⟩
   have P10 := hHd hp
   have K10 := hHd (K9.out.trans_new hk (fun b e => .inl (by omega)))
   clear hp hk hFN
   go_wp2_with fail
   rw [putS_ok, hrv] at P10
   have hl2 : (L ++ le4 (crcN L)).length = 512 := by rw [List.length_append, HLEN.out]; rfl
   obtain ⟨M, hM⟩ : ∃ M, L ++ le4 (crcN L) = M := ⟨_, rfl⟩
   rw [hM] at P10 hl2
   have HM := hHd hM
   clear hM
   refine (bytes_any P10.out (by rw [hl2]; decide)).mono ?_
   rintro e w11 ⟨A2, c2, rfl, h1, h2', hr, hb2, hk⟩
   rw [hl2]
   rw [hl2] at h1
   have HR2 := hHd hr
   have HK2 := hHd hk
   have HB2 := hHd hb2
   clear hr hk hb2
   go_wp2_with fail
   go_ret2
   refine ⟨A2, c2, rfl, h1, h2', ?_, fun a ha => Nat.le_trans K10.out.size (HB2.out a ha), K10.out.trans HK2.out⟩
   rw [HSEC.out, HM.out]
   exact HR2.out
theorem results_two {P : Program} {fn : Func} {p u : Tmp} {ty : TypeId} (h : fn.results = #[.cell p ty, .tmp u]) (tmps : Array Value) (w : World) (g : Nat) (t : TypeId) (cs : Array Value) (fr : Nat × Nat) (d : TypeDesc)
  (hp : tmps.getD p undef = .pointer (some ⟨g, 0, none⟩)) (hg : w.heap[g]? = some (.cells cs t fr))
  (hu : P.underlying ty = some d) (hd : (match d with | .struct _ | .array _ _ => true | _ => false) = true) (hi : (P.info? ty).map (·.size) = some cs.size) :
  (results fn tmps).run P w = .ok (.tuple #[.agg cs, tmps.getD u undef]) w := by
 have hp' : tmps[p]?.getD undef = .pointer (some ⟨g, 0, none⟩) := by simpa using hp
 rw [results_cell_tmp h]
 simp [hp', asAddr, run_loadVar_row w g t ty cs fr d hg hu hd hi, Result.andThen]
theorem wpList_store_box {P : Program} {ops : Array Oper} {rest : List Oper} {op : Oper} {a : Act} {w : World} {Q : Exit -> Act -> World -> Prop} (hgd : op.guard = none) (ty : TypeId) (x y : Operand) (ho : op.op = .store ty x y)
  (g : Nat) (cs : List Value) (hx : a.eval x = .pointer (some ⟨g, 0, none⟩)) (hy : a.eval y = .agg cs.toArray) {t : TypeId} {old : Array Value} (hb : Box w g t old) (hs : old.size = cs.length)
  (hi : (P.info? ty).map (·.size) = some cs.length) (h1 : ∀ v ∈ cs, v.oneCell' = true)
  (h : ∀ W, Box W g t cs.toArray -> Kp (fun k => k = g) w W -> wpList P ops Q rest (a.put op.dst undef) W) : wpList P ops Q (op :: rest) a w := by
 have hb' : Box w g t old.toList.toArray := hb
 refine wpList_store_mid hgd ty x y ho g 0 cs.toArray hx hy ?_ (by simpa using hi) (all_oneCell_toArray h1) ?_
 ·have := hb'.there
  simp only [List.size_toArray, Array.length_toList] at this ⊢
  rw [<- hs]
  exact this
 ·exact h _ (hb'.write (by simpa using hs.symm)) (Kp.setCells cs 0 w (Kp.refl _ w) (.inr rfl))
theorem sh_one (q : Nat) (b : Bool) (s : ByteArray) : ∀ v ∈ [Value.int .u64 q, .bool b, .string s], v.oneCell' = true := by
 intro v hv
 simp only [List.mem_cons, List.not_mem_nil, or_false] at hv
 rcases hv with rfl | rfl | rfl <;> rfl
theorem info_sheet : (Tryz.prog.info? 172).map (·.size) = some 3 := by kernel_rfl
theorem str_eq (a b : List UInt8) : ((⟨a.toArray⟩ : ByteArray).toList == (⟨b.toArray⟩ : ByteArray).toList) = (a == b) := by rw [ByteArray.toList_eq, ByteArray.toList_eq]
theorem equal_any (A B : Option Addr) (c d n m : Nat) (l k : List UInt8) (w : World) (hn : l.length = n) (hm : k.length = m) (hl : Rd w A l) (hk : Rd w B k) :
  Calls Tryz.prog 158 #[.slice A n c, .slice B m d] w fun e w' => e = .returned (.bool (l == k)) /\ w = w' := by
 subst hn; subst hm
 have h1 := hl.text (P := Tryz.prog) 50 9 5 c Tryz.underlying50 Tryz.underlying5 Tryz.underlying9
 have h2 := hk.text (P := Tryz.prog) 50 9 5 d Tryz.underlying50 Tryz.underlying5 Tryz.underlying9
 have hs := str_eq l k
 clear hl hk
 go_enter Tryz.func158, Tryz.ntmps158
 go_wp2_with fail
 go_ret
 refine ⟨?_, rfl⟩
 first | rfl | (rw [hs])
section
variable {G : Nat -> Prop} {w : World} {b : Nat} {l : List UInt8}
theorem otext_short (h : Opn G w b l none) (hG : G w.heap.size) (n : Int) (hn : n < 0 \/ (l.length : Int) < n) :
  Calls Tryz.prog 92 #[.pointer (some ⟨b, 0, none⟩), .int .i64 n] w fun e w' => e = .returned (.string ⟨#[]⟩) /\ Opn G w' b l (some 3) /\ Kp (fun k => k = b) w w' := by
 have H := hHd h
 have HN := hHd hn
 clear h hn
 go_enter Tryz.func92, Tryz.ntmps92
 go_wp2_with fail
 refine (read_text_short H.out hG n HN.out).mono ?_
 rintro e w1 ⟨rfl, ho, hk⟩
 have Ho := hHd ho
 have Hk := hHd hk
 clear ho hk
 go_wp2_with fail
 go_ret
 exact ⟨rfl, Ho.out, Hk.out⟩
theorem err_failed {e0 : Int} (h : Opn G w b l (some e0)) :
  Calls Tryz.prog 145 #[.pointer (some ⟨b, 0, none⟩)] w fun e w' => e = .returned (.int .i64 e0) /\ Kp (fun _ => False) w w' := by
 obtain ⟨_, A, c, fv, hx, _, _, _, _, g, rfl, _, hg⟩ := h
 have HX := hHd hx
 have HG := hHd hg
 clear hx hg
 go_enter Tryz.func145, Tryz.ntmps145
 go_wp2_with fail
 refine (reader_fails b g w _ HX.out).mono ?_
 rintro e w1 ⟨rfl, rfl⟩
 go_wp2_with fail
 refine (failing1 g 0 e0 w HG.out).mono ?_
 rintro e w1 ⟨rfl, q, rfl⟩
 go_wp2_with fail
 go_ret
 exact ⟨rfl, (Kp.refl _ w).drewN q⟩
end
end Go.Proofs.YtepaeliamhjgiaaGreatDoor
