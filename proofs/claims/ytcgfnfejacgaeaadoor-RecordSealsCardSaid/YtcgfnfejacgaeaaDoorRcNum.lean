/- Numbers as bytes, and back, as the document's own functions say them. No condition but a number of 64 bits, at most 8 bytes. -/
import Derived.Test.YtcgfnfejacgaeaaDoorGen
import Derived.Test.YtcgfnfejacgaeaaDoorNdMath
import Derived.Deep.Cut
namespace Go.Proofs.YtcgfnfejacgaeaaDoor
open Go.RowKit

theorem beN_cons : ∀ k n, beN (k + 1) n = UInt8.ofNat (n / 256 ^ k % 256) :: beN k n
  | 0, n => by simp [beN]
  | k + 1, n => by
    rw [beN, beN_cons k (n / 256), beN, List.cons_append, Nat.div_div_eq_div_mul, ← Nat.pow_succ']
theorem text_cat (a b : List UInt8) : (⟨a.toArray⟩ ++ ⟨b.toArray⟩ : ByteArray) = ⟨(a ++ b).toArray⟩ := by
  apply ByteArray.ext
  simp
set_option maxRecDepth 100000 in
set_option maxHeartbeats 800000 in
theorem num_fine2 (n : Nat) (w : World) (hn : n < 18446744073709551616) :
    Calls Tryd.prog 32 #[.int .i64 2, .int .u64 n] w fun e w' => e = .returned (.tuple #[.string ⟨(beN 2 n).toArray⟩, .bool (decide (n < 256 ^ 2))]) ∧ Kp (fun _ => False) w w' := by
  go_enter Tryd.func32, Tryd.ntmps32
  go_wp2_with fail
  go_loopw [1, 6, 7] (fun nn ss i wr => ∃ k : Nat, k ≤ 2 ∧ i = .int .i64 k ∧ ss = .string ⟨(beN k n).toArray⟩ ∧ nn = .int .u64 ((n / 256 ^ k : Nat) : Int) ∧ Kp (fun _ => False) w wr) (fun _ _ i _ => 2 - (intOf i).toNat)
  case atStart => exact ⟨0, Nat.zero_le _, rfl, rfl, by simp, Kp.refl _ _⟩
  case round =>
    obtain ⟨k, hk, rfl, rfl, rfl, hw⟩ := hrel
    have Hw := Lib.hid hw
    have hN : n / 256 ^ k < 18446744073709551616 := Nat.lt_of_le_of_lt (Nat.div_le_self _ _) hn
    have hc := beN_cons k n
    have hd : n / 256 ^ (k + 1) = n / 256 ^ k / 256 := by rw [Nat.div_div_eq_div_mul, Nat.pow_succ]
    have hsz : (beN k n).length ≤ 2 := by rw [beN_length]; exact hk
    generalize hN2 : n / 256 ^ k = N at *
    have Hc := Lib.hid hc
    have Hd := Lib.hid hd
    have HN := Lib.hid hN2
    clear hw hc hd hN2
    by_cases hlt : k < 2
    · have hm : N % 256 < 256 := Nat.mod_lt _ (by omega)
      have hrd : Rd (wr.alloc (.cells #[.int .u8 ((N : Int) % 256)] 5)) (some ⟨wr.heap.size, 0, none⟩) [UInt8.ofNat (N % 256)] := by
        refine .inr ⟨_, 0, rfl, fun j u hu => ?_⟩
        rcases j with _ | j
        · rw [(Box.new wr _ _).cell]
          cases hu
          simp
        · simp at hu
      have hcv := hrd.text 23 9 5 1 Tryd.underlying23 Tryd.underlying5 Tryd.underlying9
      simp only [List.length_cons, List.length_nil, Nat.zero_add] at hcv
      have hadd := fun w' => run_string_add_sum (P := Tryd.prog) w' ⟨#[UInt8.ofNat (N % 256)]⟩ ⟨(beN k n).toArray⟩
      clear hrd
      generalize UInt8.ofNat (N % 256) = u at *
      generalize beN k n = bs at *
      go_wp2_with fail
      go_roundw
      case rel =>
        refine ⟨k + 1, by omega, by go_num, ?_, ?_, Hw.out.alloc _⟩
        · rw [Hc.out]
          exact congrArg Value.string (text_cat [u] bs)
        · rw [Hd.out]
          go_num
      case measure => simp [intOf]; omega
    · obtain rfl : k = 2 := by omega
      have hz : decide (n < 256 ^ 2) = ((N : Int) == 0) := by
        rw [← HN.out, Bool.eq_iff_iff]
        simp only [decide_eq_true_eq, beq_iff_eq]
        omega
      have Hz := Lib.hid hz
      clear hz
      go_wp2_with fail
      go_ret2
      exact ⟨by rw [Hz.out]; rfl, Hw.out⟩
set_option maxRecDepth 100000 in
set_option maxHeartbeats 800000 in
theorem num_fine4 (n : Nat) (w : World) (hn : n < 18446744073709551616) :
    Calls Tryd.prog 32 #[.int .i64 4, .int .u64 n] w fun e w' => e = .returned (.tuple #[.string ⟨(beN 4 n).toArray⟩, .bool (decide (n < 256 ^ 4))]) ∧ Kp (fun _ => False) w w' := by
  go_enter Tryd.func32, Tryd.ntmps32
  go_wp2_with fail
  go_loopw [1, 6, 7] (fun nn ss i wr => ∃ k : Nat, k ≤ 4 ∧ i = .int .i64 k ∧ ss = .string ⟨(beN k n).toArray⟩ ∧ nn = .int .u64 ((n / 256 ^ k : Nat) : Int) ∧ Kp (fun _ => False) w wr) (fun _ _ i _ => 4 - (intOf i).toNat)
  case atStart => exact ⟨0, Nat.zero_le _, rfl, rfl, by simp, Kp.refl _ _⟩
  case round =>
    obtain ⟨k, hk, rfl, rfl, rfl, hw⟩ := hrel
    have Hw := Lib.hid hw
    have hN : n / 256 ^ k < 18446744073709551616 := Nat.lt_of_le_of_lt (Nat.div_le_self _ _) hn
    have hc := beN_cons k n
    have hd : n / 256 ^ (k + 1) = n / 256 ^ k / 256 := by rw [Nat.div_div_eq_div_mul, Nat.pow_succ]
    have hsz : (beN k n).length ≤ 4 := by rw [beN_length]; exact hk
    generalize hN2 : n / 256 ^ k = N at *
    have Hc := Lib.hid hc
    have Hd := Lib.hid hd
    have HN := Lib.hid hN2
    clear hw hc hd hN2
    by_cases hlt : k < 4
    · have hm : N % 256 < 256 := Nat.mod_lt _ (by omega)
      have hrd : Rd (wr.alloc (.cells #[.int .u8 ((N : Int) % 256)] 5)) (some ⟨wr.heap.size, 0, none⟩) [UInt8.ofNat (N % 256)] := by
        refine .inr ⟨_, 0, rfl, fun j u hu => ?_⟩
        rcases j with _ | j
        · rw [(Box.new wr _ _).cell]
          cases hu
          simp
        · simp at hu
      have hcv := hrd.text 23 9 5 1 Tryd.underlying23 Tryd.underlying5 Tryd.underlying9
      simp only [List.length_cons, List.length_nil, Nat.zero_add] at hcv
      have hadd := fun w' => run_string_add_sum (P := Tryd.prog) w' ⟨#[UInt8.ofNat (N % 256)]⟩ ⟨(beN k n).toArray⟩
      clear hrd
      generalize UInt8.ofNat (N % 256) = u at *
      generalize beN k n = bs at *
      go_wp2_with fail
      go_roundw
      case rel =>
        refine ⟨k + 1, by omega, by go_num, ?_, ?_, Hw.out.alloc _⟩
        · rw [Hc.out]
          exact congrArg Value.string (text_cat [u] bs)
        · rw [Hd.out]
          go_num
      case measure => simp [intOf]; omega
    · obtain rfl : k = 4 := by omega
      have hz : decide (n < 256 ^ 4) = ((N : Int) == 0) := by
        rw [← HN.out, Bool.eq_iff_iff]
        simp only [decide_eq_true_eq, beq_iff_eq]
        omega
      have Hz := Lib.hid hz
      clear hz
      go_wp2_with fail
      go_ret2
      exact ⟨by rw [Hz.out]; rfl, Hw.out⟩
set_option maxHeartbeats 400000 in
theorem numS_any (wd n : Nat) (w : World) (hwd : wd = 2 ∨ wd = 4) (hn : n < 18446744073709551616) :
    Calls Tryd.prog 17 #[.int .i64 wd, .int .u64 n] w fun e w' => e = .returned (.string ⟨(beN wd n).toArray⟩) ∧ Kp (fun _ => False) w w' := by
  have h : ∃ b, Calls Tryd.prog 32 #[.int .i64 wd, .int .u64 n] w fun e w' => e = .returned (.tuple #[.string ⟨(beN wd n).toArray⟩, .bool b]) ∧ Kp (fun _ => False) w w' := by
    rcases hwd with rfl | rfl
    · exact ⟨_, num_fine2 n w hn⟩
    · exact ⟨_, num_fine4 n w hn⟩
  obtain ⟨b, h⟩ := h
  go_enter Tryd.func17, Tryd.ntmps17
  go_wp2_with fail
  refine h.mono ?_
  clear h
  rintro e w1 ⟨rfl, hk⟩
  have HK := Lib.hid hk
  clear hk
  go_wp2_with fail
  go_ret
  exact ⟨rfl, HK.out⟩
theorem add_step (n b : Nat) (h : n * 256 + 256 ≤ 18446744073709551616) (hb : b < 256) : IntKind.u64.wrap ((n : Int) * 256) = ((n * 256 : Nat) : Int) ∧ IntKind.u64.wrap (((n * 256 : Nat) : Int) + (b : Int)) = ((n * 256 + b : Nat) : Int) :=
  ⟨by rw [IntWalk.u64_in _ (by omega)]; omega, by rw [IntWalk.u64_in _ (by omega)]; omega⟩
set_option maxHeartbeats 400000 in
theorem value_any (l : List UInt8) (w : World) (hl : l.length ≤ 8) :
    Calls Tryd.prog 22 #[.string ⟨l.toArray⟩] w fun e w' => e = .returned (.int .u64 (numN l)) ∧ w = w' := by
  go_enter Tryd.func22, Tryd.ntmps22
  go_wp2_with fail
  go_loop [3, 4] (fun n i => ∃ k : Nat, k ≤ l.length ∧ i = .int .i64 k ∧ n = .int .u64 (numN (l.take k))) (fun _ i => l.length - (intOf i).toNat)
  case atStart => exact ⟨0, Nat.zero_le _, rfl, rfl⟩
  case round =>
    obtain ⟨k, hk, rfl, rfl⟩ := hrel
    by_cases hlt : k < l.length
    · have h3 := l[k].toNat_lt
      have h4 : numN (l.take k) * 256 + 256 ≤ 18446744073709551616 := by
        have h5 := numN_lt (l.take k)
        have h6 : (l.take k).length ≤ 7 := by simp; omega
        have h7 : 256 ^ (l.take k).length ≤ 256 ^ 7 := Nat.pow_le_pow_right (by omega) h6
        have h8 : 256 ^ 7 * 256 = 18446744073709551616 := by decide
        omega
      have hs := add_step (numN (l.take k)) l[k].toNat h4 h3
      have h2 := numN_take l k hlt
      rw [← h2] at hs
      obtain ⟨hs1, hs2⟩ := hs
      generalize hN : numN (l.take k) = N at *
      generalize hN2 : numN (l.take (k + 1)) = N2 at *
      have HN := Lib.hid hN2
      clear h2 hN hN2
      have hb : IntKind.u64.wrap ((l[k].toNat : Nat) : Int) = l[k].toNat := IntWalk.u64_in _ (by omega)
      have hx : (⟨l.toArray⟩ : ByteArray)[k]'(show k < l.toArray.size by simpa using hlt) = l[k] := rfl
      have H1 := Lib.hid hs1
      have H2 := Lib.hid hs2
      have HB := Lib.hid hb
      clear hs1 hs2 hb h4
      go_wp2_with fail
      go_round
      case rel =>
        refine ⟨k + 1, by omega, by go_num, ?_⟩
        rw [HN.out]
        exact congrArg (Value.int .u64) (by first | rw [H1.out, H2.out] | rw [hx, HB.out, H1.out, H2.out])
      case measure => simp [intOf]; omega
    · go_wp2_with fail
      go_ret
      exact ⟨by
        rw [List.take_of_length_le (by omega)]
        rfl, rfl⟩
theorem add_str {P : Program} (a b c : List UInt8) (w : World) (h : a ++ b = c) (hs : a.length + b.length ≤ 100000) : (Op.stringOp .add ⟨a.toArray⟩ ⟨b.toArray⟩).run P w = .ok (.string ⟨c.toArray⟩) w := by
  rw [run_string_add_sum w ⟨a.toArray⟩ ⟨b.toArray⟩ (by show a.toArray.size + b.toArray.size ≤ _; simp; omega), text_cat, h]
end Go.Proofs.YtcgfnfejacgaeaaDoor
