/- The checksum's functions: what each one answers, by the division's steps. Condition: the table of half bytes reads as the program's text lays it. -/
import Derived.Test.YtcgfnfejacgaeaaDoorCrcMath
import Derived.Test.YtcgfnfejacgaeaaDoorMem
import Derived.Test.YtcgfnfejacgaeaaDoorChecked
import Derived.IntWalk
import Derived.Laws.BitsAllLaws
namespace Go.Proofs.YtcgfnfejacgaeaaDoor
open Go.RowKit

/-- The table of half bytes. -/
def Tbl (w : World) : Prop := ∀ i, i < 16 → w.cell? ⟨0, i, none⟩ = some (.int .u32 (tab i))
theorem Tbl.kp {w w' : World} {S : Nat → Prop} (h : Tbl w) (hk : Kp S w w') (hn : ¬ S 0) : Tbl w' := fun i hi =>
  (hk.cell (p := ⟨0, i, none⟩) (World.block_lt_of_cell? w ⟨0, i, none⟩ (h i hi)) hn).trans (h i hi)
theorem xor_int (a b : Nat) (ha : a < 4294967296) (hb : b < 4294967296) : bits .xor .u32 (a : Int) (b : Int) = ((a ^^^ b : Nat) : Int) := u32_xor_nat a b ha hb

theorem Rd.at' {w : World} {A : Option Addr} {l : List UInt8} {k : Nat} (h : Rd w A l) (hk : k < l.length) : ∃ b o, A = some ⟨b, o, none⟩ ∧ w.cell? ⟨b, o + k, none⟩ = some (.int .u8 l[k].toNat) := by
  rcases h with rfl | ⟨b, o, rfl, hc⟩
  · simp at hk
  · exact ⟨b, o, rfl, hc k l[k] (List.getElem?_eq_getElem hk)⟩
set_option maxHeartbeats 400000 in
theorem divide_any (r : Nat) (x : UInt8) (w : World) (hr : r < 4294967296) (ht : Tbl w) :
    Calls Tryd.prog 30 #[.int .u32 r, .int .u8 x.toNat] w fun e w' => e = .returned (.int .u32 ((stN 8 (r ^^^ x.toNat) : Nat) : Int)) ∧ w = w' := by
  have hx := x.toNat_lt
  have H := Lib.hid ht
  clear ht
  have hm0 : r ^^^ x.toNat < 4294967296 := Nat.xor_lt_two_pow (n := 32) hr (Nat.lt_trans hx (by decide))
  have hq := xor_int r x.toNat hr (Nat.lt_trans hx (by decide))
  generalize r ^^^ x.toNat = m0 at *
  go_enter Tryd.func30, Tryd.ntmps30
  go_wp2_with fail
  clear hq
  go_loop [0, 9] (fun s i => ∃ k : Nat, k ≤ 2 ∧ i = .int .i64 k ∧ s = .int .u32 ((stN (4 * k) m0 : Nat) : Int)) (fun _ i => 2 - (intOf i).toNat)
  case atStart => exact ⟨0, by omega, rfl, rfl⟩
  case round =>
    obtain ⟨k, hk, rfl, rfl⟩ := hrel
    have hm := stN_lt (4 * k) m0 hm0
    have hs : stN (4 * (k + 1)) m0 = stN (4 * k) m0 / 16 ^^^ tab (stN (4 * k) m0 % 16) := by
      rw [show 4 * (k + 1) = 4 * k + 4 by omega, stN_add, stN_four]
    have hlast : 2 ≤ k → stN (4 * k) m0 = stN 8 m0 := by intro h; obtain rfl : k = 2 := by omega
                                                         rfl
    generalize stN (4 * k) m0 = m at *
    have Hs := Lib.hid hs
    have Hl := Lib.hid hlast
    clear hs hlast
    by_cases hlt : k < 2
    · have hc := H.out (m % 16) (Nat.mod_lt _ (by decide))
      have ha : bits .and .u32 (m : Int) 15 = ((m % 16 : Nat) : Int) := by
        have := u32_and_nat m 15 hm (by decide)
        rw [show (15 : Nat) = 2 ^ 4 - 1 by decide, Nat.and_two_pow_sub_one_eq_mod] at this
        exact this
      go_wp2_with fail
      go_round
      case rel =>
        refine ⟨k + 1, by omega, by go_num, ?_⟩
        have hx2 := xor_int (m / 16) (tab (m % 16)) (by omega) (stN_lt 4 _ (by omega))
        rw [Int.natCast_ediv] at hx2
        rw [Hs.out, ← hx2]
        rfl
      case measure => simp [intOf]; omega
    · have hl := Hl.out (by omega)
      subst hl
      go_wp2_with fail
      go_ret
      exact ⟨rfl, rfl⟩

theorem rest_take (s : Nat) (l : List UInt8) (k : Nat) (h : k < l.length) : rest s (l.take (k + 1)) = stN 8 (rest s (l.take k) ^^^ l[k].toNat) := by
  rw [List.take_succ_eq_append_getElem h, rest_snoc]

set_option maxHeartbeats 400000 in
theorem sum_any' (A : Option Addr) (l : List UInt8) (c : Nat) (w : World) (hm : l.length ≤ maxLen) (hr : Rd w A l) (ht : Tbl w) :
    Calls Tryd.prog 13 #[.slice A l.length c] w fun e w' => e = .returned (.int .u32 ((crcN l : Nat) : Int)) ∧ w = w' := by
  unfold maxLen at hm
  have Hr := Lib.hid hr
  have Ht := Lib.hid ht
  clear hr ht
  go_enter Tryd.func13, Tryd.ntmps13
  go_wp2_with fail
  go_loop [3, 8] (fun s i => ∃ k : Nat, k ≤ l.length ∧ i = .int .i64 k ∧ s = .int .u32 ((rest 4294967295 (l.take k) : Nat) : Int)) (fun _ i => l.length - (intOf i).toNat)
  case atStart => exact ⟨0, by omega, rfl, rfl⟩
  case round =>
    obtain ⟨k, hk, rfl, rfl⟩ := hrel
    have hrl := rest_lt 4294967295 (l.take k) (by decide)
    by_cases hlt : k < l.length
    · have hn := Lib.hid (rest_take 4294967295 l k hlt)
      obtain ⟨b, o, rfl, hc⟩ := Hr.out.at' hlt
      generalize l[k] = x at *
      generalize rest 4294967295 (l.take k) = s at *
      go_wp2_with fail
      refine (divide_any s x w hrl Ht.out).mono ?_
      rintro e w' ⟨rfl, rfl⟩
      go_wp2_with fail
      go_round
      case rel => exact ⟨k + 1, by omega, by go_num, by rw [hn.out]⟩
      case measure => simp [intOf]; omega
    · have hk' : l.take k = l := List.take_of_length_le (by omega)
      rw [hk'] at hrl ⊢
      have hf : bits .xor .u32 IntKind.u32.max ((rest 4294967295 l : Nat) : Int) = ((crcN l : Nat) : Int) := by
        rw [crcN, xor_ones _ hrl]
        exact xor_int 4294967295 _ (by decide) hrl
      have Hf := Lib.hid hf
      clear hk' hf
      go_wp2_with fail
      go_ret
      exact ⟨by rw [Hf.out]; rfl, rfl⟩

theorem sum_any (A : Option Addr) (l : List UInt8) (c : Nat) (w : World) (hl : l.length ≤ c) (hm : c ≤ maxLen) (hr : Rd w A l) (ht : Tbl w) :
    Calls Tryd.prog 13 #[.slice A l.length c] w fun e w' => e = .returned (.int .u32 ((crcN l : Nat) : Int)) ∧ w = w' := sum_any' A l c w (Nat.le_trans hl hm) hr ht

theorem int_eq (a b : Nat) : (((a : Nat) : Int) == ((b : Nat) : Int)) = decide (a = b) := by
  by_cases h : a = b
  · simp [h]
  · simp [h]; omega

set_option maxHeartbeats 400000 in
theorem ok_any (A : Option Addr) (l : List UInt8) (c n : Nat) (w : World) (hl : l.length ≤ c) (hm : c ≤ maxLen) (hr : Rd w A l) (ht : Tbl w) :
    Calls Tryd.prog 14 #[.slice A l.length c, .int .u32 n] w fun e w' => e = .returned (.bool (decide (crcN l = n))) ∧ w = w' := by
  have Hr := Lib.hid hr
  have Ht := Lib.hid ht
  clear hr ht
  go_enter Tryd.func14, Tryd.ntmps14
  go_wp2_with fail
  refine (sum_any A l c w hl hm Hr.out Ht.out).mono ?_
  rintro e w' ⟨rfl, rfl⟩
  go_wp2_with fail
  go_ret
  exact ⟨by rw [int_eq]; rfl, rfl⟩

set_option maxHeartbeats 1000000 in
theorem ref_any (s : ByteArray) (w : World) (hs : s.size ≤ 3000) :
    Calls Tryd.prog 7 #[.string s] w fun e w' => e = .returned (.int .u32 ((crcN s.data.toList : Nat) : Int)) ∧ w = w' := by
  have hz : s.data.toList.length = s.size := Array.length_toList
  go_enter Tryd.func7, Tryd.ntmps7
  go_wp2_with fail
  go_loop [3, 4] (fun n i => ∃ k : Nat, k ≤ s.size ∧ i = .int .i64 k ∧ n = .int .u32 ((rest 4294967295 (s.data.toList.take k) : Nat) : Int)) (fun _ i => s.size - (intOf i).toNat)
  case atStart => exact ⟨0, by omega, rfl, rfl⟩
  case round =>
    obtain ⟨k, hk, rfl, rfl⟩ := hrel
    have hrl := rest_lt 4294967295 (s.data.toList.take k) (by decide)
    by_cases hlt : k < s.size
    · have hn := rest_take 4294967295 s.data.toList k (by omega)
      have hx : s.data.toList[k]'(by omega) = s[k] := rfl
      rw [hx] at hn
      have hxl := s[k].toNat_lt
      have Hn := Lib.hid hn
      generalize rest 4294967295 (s.data.toList.take k) = r at *
      clear hn hx
      go_wp2_with fail
      generalize s[k] = x at *
      go_loop [3, 5, 6] (fun n c i => ∃ j nj : Nat, j ≤ 8 ∧ nj < 4294967296 ∧ i = .int .i64 j ∧ c = .int .u8 ((x.toNat / 2 ^ j : Nat) : Int) ∧ n = .int .u32 (nj : Int) ∧ nj ^^^ x.toNat / 2 ^ j = stN j (r ^^^ x.toNat)) (fun _ _ i => 8 - (intOf i).toNat)
      case atStart => exact ⟨0, r, by omega, hrl, rfl, by simp, rfl, by simp [stN]⟩
      case round =>
        obtain ⟨j, nj, hj, hnj, rfl, rfl, rfl, hst⟩ := hrel
        have hd : x.toNat / 2 ^ (j + 1) = x.toNat / 2 ^ j / 2 := by rw [Nat.div_div_eq_div_mul, Nat.pow_succ]
        have hcl : x.toNat / 2 ^ j < 256 := Nat.lt_of_le_of_lt (Nat.div_le_self _ _) hxl
        have hlast : 8 ≤ j → stN j (r ^^^ x.toNat) = nj → stN 8 (r ^^^ x.toNat) = nj := by
          intro h e
          obtain rfl : j = 8 := by omega
          exact e
        have h8 : 8 ≤ j → x.toNat / 2 ^ j = 0 := by
          intro h
          obtain rfl : j = 8 := by omega
          exact Nat.div_eq_of_lt hxl
        have hs := stN_succ j (r ^^^ x.toNat)
        rw [← hst] at hs hlast
        have hr2 := ref_step nj (x.toNat / 2 ^ j)
        generalize x.toNat / 2 ^ j = c at *
        rw [← hr2] at hs
        have Hd := Lib.hid hd
        have Hs := Lib.hid hs
        have Hl := Lib.hid hlast
        have H8 := Lib.hid h8
        clear hd hs hlast h8 hr2 hst
        by_cases hlt8 : j < 8
        · by_cases hone : (nj % 2 + c % 2) % 2 = 1
          · rw [if_pos hone] at Hs
            go_wp2_with fail
            go_round
            case rel =>
              have hx2 := xor_int (nj / 2) poly (by omega) (by decide)
              rw [Int.natCast_ediv] at hx2
              refine ⟨j + 1, nj / 2 ^^^ poly, by omega, Nat.xor_lt_two_pow (n := 32) (by omega) (by decide), by go_num, ?_, ?_, ?_⟩
              · rw [Hd.out, Int.natCast_ediv]; rfl
              · rw [← hx2]; rfl
              · rw [Hd.out, Hs.out]
            case measure => simp [intOf]; omega
          · rw [if_neg hone] at Hs
            go_wp2_with fail
            go_round
            case rel =>
              refine ⟨j + 1, nj / 2, by omega, by omega, by go_num, ?_, ?_, ?_⟩
              · rw [Hd.out, Int.natCast_ediv]; rfl
              · rw [Int.natCast_ediv]; rfl
              · rw [Hd.out, Hs.out]
            case measure => simp [intOf]; omega
        · obtain rfl : c = 0 := H8.out (by omega)
          have hfin := Hl.out (by omega) (Nat.xor_zero _)
          rw [hfin] at Hn
          clear hfin Hl Hs Hd H8
          go_wp2_with fail
          go_round
          case rel => exact ⟨k + 1, by omega, by go_num, by rw [Hn.out]⟩
          case measure => simp [intOf]; omega
    · have hk' : s.data.toList.take k = s.data.toList := List.take_of_length_le (by omega)
      rw [hk'] at hrl ⊢
      have hf : IntKind.u32.wrap (4294967295 - ((rest 4294967295 s.data.toList : Nat) : Int)) = ((crcN s.data.toList : Nat) : Int) := by
        rw [crcN, IntWalk.u32_in _ (by omega)]
        omega
      have hf2 : 4294967295 - ((rest 4294967295 s.data.toList : Nat) : Int) = ((crcN s.data.toList : Nat) : Int) := by
        rw [crcN]
        omega
      have Hf := Lib.hid hf
      have Hf2 := Lib.hid hf2
      clear hk' hf hf2
      go_wp2_with fail
      go_ret
      exact ⟨by first | (rw [Hf.out]; rfl) | (rw [Hf2.out]; rfl), rfl⟩
end Go.Proofs.YtcgfnfejacgaeaaDoor
