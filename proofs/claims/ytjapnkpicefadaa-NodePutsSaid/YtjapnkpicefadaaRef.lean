/- A thing's hash, and the document's own bytes of a number. No condition. -/
import Derived.Test.YtjapnkpicefadaaItems
import Derived.Deep.Cut
namespace Go.Proofs.Ytjapnkpicefadaa
open Go.RowKit

theorem run_copy_text {P : Program} (w : World) (dT sT ty elem : TypeId) (hu : P.underlying dT = some (.slice elem)) (hsz : (P.info? elem).map (·.size) = some 1) (g : Nat) (x : ByteArray) (t : TypeId)
    (hg : w.heap[g]? = some (.cells (bcs zeros32).toArray t (0, 0))) :
    (Builtin.copy_ #[dT, sT] ty #[.slice (some ⟨g, 0, none⟩) 32 32, .string x]).run P w = .ok (goInt (Nat.min x.size 32)) (w.setRow g (bcs (hb x)).toArray) := by
  have ht : (tb x).length = x.size := Array.length_toList
  have hlen : List.take (Nat.min x.size 32) (x.data.toList.map fun b => Value.int .u8 b.toNat) = bcs ((tb x).take 32) := by
    rw [← List.map_take, bcs]
    congr 1
    rw [List.take_eq_take_iff, ht]
    show min (min x.size 32) x.size = min 32 x.size
    omega
  have hl2 : (bcs ((tb x).take 32)).length ≤ 32 := by simp [bcs_length]; omega
  have hst := run_storeCells_at (P := P) g 0 t (bcs ((tb x).take 32)) 0 _ w hg (by simp [bcs_length, zeros32_length]; omega) (bcs_one _)
  have he : (bcs zeros32).toArray.toList.take (0 + 0) ++ bcs ((tb x).take 32) ++ (bcs zeros32).toArray.toList.drop (0 + 0 + (bcs ((tb x).take 32)).length) = bcs (hb x) := by
    rw [hb, bcs_append]
    simp only [Nat.add_zero, List.take_zero, List.nil_append, Nat.zero_add, bcs_length]
    congr 1
    rw [zeros32]
    simp only [bcs, List.map_replicate, List.drop_replicate]
    congr 1
    simp
    omega
  rw [he] at hst
  obtain ⟨i, hi, hi1⟩ : ∃ i, P.info? elem = some i ∧ i.size = 1 := by
    cases hq : P.info? elem with
    | none => simp [hq] at hsz
    | some i => exact ⟨i, rfl, by simpa [hq] using hsz⟩
  simp [Builtin.copy_, run_underlying hu, sizeOf, typeInfo, hi, Builtin.lenOf, Builtin.firstCells]
  rw [hlen, hst]
  rfl

theorem step_copy_text {P : Program} {ops : Array Oper} {o : Oper} {a : Act} {w : World} {K : Act → World → Prop} {Q : Exit → Act → World → Prop} {E : Prop} (hgd : o.guard = none) (d s : Operand) (dT sT : TypeId)
    (ho : o.op = .call { callee := .builtin .copy, args := #[d, s], argTypes := #[dT, sT] }) (elem : TypeId) (hu : P.underlying dT = some (.slice elem)) (hsz : (P.info? elem).map (·.size) = some 1)
    (g : Nat) (hd : a.eval d = .slice (some ⟨g, 0, none⟩) 32 32) (x : ByteArray) (hs : a.eval s = .string x) (t : TypeId)
    (hg : w.heap[g]? = some (.cells (bcs zeros32).toArray t (0, 0)))
    (h : K (a.put o.dst (goInt (Nat.min x.size 32))) (w.setRow g (bcs (hb x)).toArray)) :
    if Region.wanted o (yielded ops a.tmps) = true then Oper.wp P o a w K Q else E := by
  have hw : Region.wanted o (yielded ops a.tmps) = true := by simp [Region.wanted, hgd]
  rw [if_pos hw]
  have hrun := run_copy_text (P := P) w dT sT o.type elem hu hsz g x t hg
  unfold Oper.wp
  simp [execOp, ho, resolve, invoke, builtin, hd, hs, hrun, Result.andThen]
  exact h

theorem Kp.rowed (w : World) (g : Nat) (cs : Array Value) : Kp (fun k => k = g) w (w.setRow g cs) := (Kp.refl (fun k => k = g) w).setRow (.inr rfl) cs
theorem byte_size : (Try.prog.info? 5).map (·.size) = some 1 := by kernel_rfl

theorem beN_cons : ∀ k n, beN (k + 1) n = UInt8.ofNat (n / 256 ^ k % 256) :: beN k n
  | 0, n => by simp [beN]
  | k + 1, n => by
    rw [beN, beN_cons k (n / 256), beN, List.cons_append, Nat.div_div_eq_div_mul, ← Nat.pow_succ']

theorem text_cat (a b : List UInt8) : (⟨a.toArray⟩ ++ ⟨b.toArray⟩ : ByteArray) = ⟨(a ++ b).toArray⟩ := by
  apply ByteArray.ext
  simp

set_option maxHeartbeats 400000 in
theorem num_odd (wd : Int) (n : Nat) (w : World) (h : wdB wd = false) :
    Calls Try.prog 40 #[.int .i64 wd, .int .u64 n] w fun e w' => e = .returned (.tuple #[.string ⟨#[]⟩, .bool false]) ∧ Kp (fun _ => False) w w' := by
  simp only [wdB, Bool.or_eq_false_iff] at h
  obtain ⟨⟨⟨h1, h2⟩, h4⟩, h8⟩ := h
  have n1 : (wd != 1) = true := by simpa using h1
  have n2 : (wd != 2) = true := by simpa using h2
  have n4 : (wd != 4) = true := by simpa using h4
  have n8 : (wd != 8) = true := by simpa using h8
  go_enter Try.func40, Try.ntmps40
  go_wp2_with fail
  go_ret2
  exact ⟨rfl, Kp.refl _ _⟩

set_option maxHeartbeats 800000 in
theorem num_fine1 (n : Nat) (w : World) (hn : n < 18446744073709551616) :
    Calls Try.prog 40 #[.int .i64 1, .int .u64 n] w fun e w' => e = .returned (.tuple #[.string ⟨(beN 1 n).toArray⟩, .bool (decide (n < 256 ^ 1))]) ∧ Kp (fun _ => False) w w' := by
  go_enter Try.func40, Try.ntmps40
  go_wp2_with fail
  go_loopw [1, 6, 7] (fun nn ss i wr => ∃ k : Nat, k ≤ 1 ∧ i = .int .i64 k ∧ ss = .string ⟨(beN k n).toArray⟩ ∧ nn = .int .u64 ((n / 256 ^ k : Nat) : Int) ∧ Kp (fun _ => False) w wr) (fun _ _ i _ => 1 - (intOf i).toNat)
  case atStart => exact ⟨0, Nat.zero_le _, rfl, rfl, by simp, Kp.refl _ _⟩
  case round =>
    obtain ⟨k, hk, rfl, rfl, rfl, hw⟩ := hrel
    have Hw := Lib.hid hw
    have hN : n / 256 ^ k < 18446744073709551616 := Nat.lt_of_le_of_lt (Nat.div_le_self _ _) hn
    have hc := beN_cons k n
    have hd : n / 256 ^ (k + 1) = n / 256 ^ k / 256 := by rw [Nat.div_div_eq_div_mul, Nat.pow_succ]
    have hsz : (beN k n).length ≤ 1 := by rw [beN_length]; exact hk
    generalize hN2 : n / 256 ^ k = N at *
    have Hc := Lib.hid hc
    have Hd := Lib.hid hd
    have HN := Lib.hid hN2
    clear hw hc hd hN2
    by_cases hlt : k < 1
    · have hm : N % 256 < 256 := Nat.mod_lt _ (by omega)
      have hrd : Rd (wr.alloc (.cells #[.int .u8 ((N : Int) % 256)] 5)) (some ⟨wr.heap.size, 0, none⟩) [UInt8.ofNat (N % 256)] := by
        refine .inr ⟨_, 0, rfl, fun j u hu => ?_⟩
        rcases j with _ | j
        · rw [(Box.new wr _ _).cell]
          cases hu
          simp
        · simp at hu
      have hcv := hrd.text 32 9 5 1 Try.underlying32 Try.underlying5 Try.underlying9
      simp only [List.length_cons, List.length_nil, Nat.zero_add] at hcv
      have hadd := fun w' => run_string_add_sum (P := Try.prog) w' ⟨#[UInt8.ofNat (N % 256)]⟩ ⟨(beN k n).toArray⟩
      clear hrd
      generalize UInt8.ofNat (N % 256) = u at *
      generalize beN k n = bs at *
      go_wp2_with fail
      go_roundw
      case rel =>
        refine ⟨k + 1, by omega, by go_num, ?_, ?_, Hw.out.alloc _⟩
        · rw [Hc.out]
          exact congrArg Value.string (text_cat [u] bs)
        · rw [Hd.out]
          go_num
      case measure => simp [intOf]; omega
    · obtain rfl : k = 1 := by omega
      have hz : decide (n < 256 ^ 1) = ((N : Int) == 0) := by
        rw [← HN.out, Bool.eq_iff_iff]
        simp only [decide_eq_true_eq, beq_iff_eq]
        omega
      have Hz := Lib.hid hz
      clear hz
      go_wp2_with fail
      go_ret2
      exact ⟨by rw [Hz.out]; rfl, Hw.out⟩

set_option maxHeartbeats 800000 in
theorem num_fine2 (n : Nat) (w : World) (hn : n < 18446744073709551616) :
    Calls Try.prog 40 #[.int .i64 2, .int .u64 n] w fun e w' => e = .returned (.tuple #[.string ⟨(beN 2 n).toArray⟩, .bool (decide (n < 256 ^ 2))]) ∧ Kp (fun _ => False) w w' := by
  go_enter Try.func40, Try.ntmps40
  go_wp2_with fail
  go_loopw [1, 6, 7] (fun nn ss i wr => ∃ k : Nat, k ≤ 2 ∧ i = .int .i64 k ∧ ss = .string ⟨(beN k n).toArray⟩ ∧ nn = .int .u64 ((n / 256 ^ k : Nat) : Int) ∧ Kp (fun _ => False) w wr) (fun _ _ i _ => 2 - (intOf i).toNat)
  case atStart => exact ⟨0, Nat.zero_le _, rfl, rfl, by simp, Kp.refl _ _⟩
  case round =>
    obtain ⟨k, hk, rfl, rfl, rfl, hw⟩ := hrel
    have Hw := Lib.hid hw
    have hN : n / 256 ^ k < 18446744073709551616 := Nat.lt_of_le_of_lt (Nat.div_le_self _ _) hn
    have hc := beN_cons k n
    have hd : n / 256 ^ (k + 1) = n / 256 ^ k / 256 := by rw [Nat.div_div_eq_div_mul, Nat.pow_succ]
    have hsz : (beN k n).length ≤ 2 := by rw [beN_length]; exact hk
    generalize hN2 : n / 256 ^ k = N at *
    have Hc := Lib.hid hc
    have Hd := Lib.hid hd
    have HN := Lib.hid hN2
    clear hw hc hd hN2
    by_cases hlt : k < 2
    · have hm : N % 256 < 256 := Nat.mod_lt _ (by omega)
      have hrd : Rd (wr.alloc (.cells #[.int .u8 ((N : Int) % 256)] 5)) (some ⟨wr.heap.size, 0, none⟩) [UInt8.ofNat (N % 256)] := by
        refine .inr ⟨_, 0, rfl, fun j u hu => ?_⟩
        rcases j with _ | j
        · rw [(Box.new wr _ _).cell]
          cases hu
          simp
        · simp at hu
      have hcv := hrd.text 32 9 5 1 Try.underlying32 Try.underlying5 Try.underlying9
      simp only [List.length_cons, List.length_nil, Nat.zero_add] at hcv
      have hadd := fun w' => run_string_add_sum (P := Try.prog) w' ⟨#[UInt8.ofNat (N % 256)]⟩ ⟨(beN k n).toArray⟩
      clear hrd
      generalize UInt8.ofNat (N % 256) = u at *
      generalize beN k n = bs at *
      go_wp2_with fail
      go_roundw
      case rel =>
        refine ⟨k + 1, by omega, by go_num, ?_, ?_, Hw.out.alloc _⟩
        · rw [Hc.out]
          exact congrArg Value.string (text_cat [u] bs)
        · rw [Hd.out]
          go_num
      case measure => simp [intOf]; omega
    · obtain rfl : k = 2 := by omega
      have hz : decide (n < 256 ^ 2) = ((N : Int) == 0) := by
        rw [← HN.out, Bool.eq_iff_iff]
        simp only [decide_eq_true_eq, beq_iff_eq]
        omega
      have Hz := Lib.hid hz
      clear hz
      go_wp2_with fail
      go_ret2
      exact ⟨by rw [Hz.out]; rfl, Hw.out⟩

set_option maxHeartbeats 800000 in
theorem num_fine4 (n : Nat) (w : World) (hn : n < 18446744073709551616) :
    Calls Try.prog 40 #[.int .i64 4, .int .u64 n] w fun e w' => e = .returned (.tuple #[.string ⟨(beN 4 n).toArray⟩, .bool (decide (n < 256 ^ 4))]) ∧ Kp (fun _ => False) w w' := by
  go_enter Try.func40, Try.ntmps40
  go_wp2_with fail
  go_loopw [1, 6, 7] (fun nn ss i wr => ∃ k : Nat, k ≤ 4 ∧ i = .int .i64 k ∧ ss = .string ⟨(beN k n).toArray⟩ ∧ nn = .int .u64 ((n / 256 ^ k : Nat) : Int) ∧ Kp (fun _ => False) w wr) (fun _ _ i _ => 4 - (intOf i).toNat)
  case atStart => exact ⟨0, Nat.zero_le _, rfl, rfl, by simp, Kp.refl _ _⟩
  case round =>
    obtain ⟨k, hk, rfl, rfl, rfl, hw⟩ := hrel
    have Hw := Lib.hid hw
    have hN : n / 256 ^ k < 18446744073709551616 := Nat.lt_of_le_of_lt (Nat.div_le_self _ _) hn
    have hc := beN_cons k n
    have hd : n / 256 ^ (k + 1) = n / 256 ^ k / 256 := by rw [Nat.div_div_eq_div_mul, Nat.pow_succ]
    have hsz : (beN k n).length ≤ 4 := by rw [beN_length]; exact hk
    generalize hN2 : n / 256 ^ k = N at *
    have Hc := Lib.hid hc
    have Hd := Lib.hid hd
    have HN := Lib.hid hN2
    clear hw hc hd hN2
    by_cases hlt : k < 4
    · have hm : N % 256 < 256 := Nat.mod_lt _ (by omega)
      have hrd : Rd (wr.alloc (.cells #[.int .u8 ((N : Int) % 256)] 5)) (some ⟨wr.heap.size, 0, none⟩) [UInt8.ofNat (N % 256)] := by
        refine .inr ⟨_, 0, rfl, fun j u hu => ?_⟩
        rcases j with _ | j
        · rw [(Box.new wr _ _).cell]
          cases hu
          simp
        · simp at hu
      have hcv := hrd.text 32 9 5 1 Try.underlying32 Try.underlying5 Try.underlying9
      simp only [List.length_cons, List.length_nil, Nat.zero_add] at hcv
      have hadd := fun w' => run_string_add_sum (P := Try.prog) w' ⟨#[UInt8.ofNat (N % 256)]⟩ ⟨(beN k n).toArray⟩
      clear hrd
      generalize UInt8.ofNat (N % 256) = u at *
      generalize beN k n = bs at *
      go_wp2_with fail
      go_roundw
      case rel =>
        refine ⟨k + 1, by omega, by go_num, ?_, ?_, Hw.out.alloc _⟩
        · rw [Hc.out]
          exact congrArg Value.string (text_cat [u] bs)
        · rw [Hd.out]
          go_num
      case measure => simp [intOf]; omega
    · obtain rfl : k = 4 := by omega
      have hz : decide (n < 256 ^ 4) = ((N : Int) == 0) := by
        rw [← HN.out, Bool.eq_iff_iff]
        simp only [decide_eq_true_eq, beq_iff_eq]
        omega
      have Hz := Lib.hid hz
      clear hz
      go_wp2_with fail
      go_ret2
      exact ⟨by rw [Hz.out]; rfl, Hw.out⟩

set_option maxHeartbeats 800000 in
theorem num_fine8 (n : Nat) (w : World) (hn : n < 18446744073709551616) :
    Calls Try.prog 40 #[.int .i64 8, .int .u64 n] w fun e w' => e = .returned (.tuple #[.string ⟨(beN 8 n).toArray⟩, .bool (decide (n < 256 ^ 8))]) ∧ Kp (fun _ => False) w w' := by
  go_enter Try.func40, Try.ntmps40
  go_wp2_with fail
  go_loopw [1, 6, 7] (fun nn ss i wr => ∃ k : Nat, k ≤ 8 ∧ i = .int .i64 k ∧ ss = .string ⟨(beN k n).toArray⟩ ∧ nn = .int .u64 ((n / 256 ^ k : Nat) : Int) ∧ Kp (fun _ => False) w wr) (fun _ _ i _ => 8 - (intOf i).toNat)
  case atStart => exact ⟨0, Nat.zero_le _, rfl, rfl, by simp, Kp.refl _ _⟩
  case round =>
    obtain ⟨k, hk, rfl, rfl, rfl, hw⟩ := hrel
    have Hw := Lib.hid hw
    have hN : n / 256 ^ k < 18446744073709551616 := Nat.lt_of_le_of_lt (Nat.div_le_self _ _) hn
    have hc := beN_cons k n
    have hd : n / 256 ^ (k + 1) = n / 256 ^ k / 256 := by rw [Nat.div_div_eq_div_mul, Nat.pow_succ]
    have hsz : (beN k n).length ≤ 8 := by rw [beN_length]; exact hk
    generalize hN2 : n / 256 ^ k = N at *
    have Hc := Lib.hid hc
    have Hd := Lib.hid hd
    have HN := Lib.hid hN2
    clear hw hc hd hN2
    by_cases hlt : k < 8
    · have hm : N % 256 < 256 := Nat.mod_lt _ (by omega)
      have hrd : Rd (wr.alloc (.cells #[.int .u8 ((N : Int) % 256)] 5)) (some ⟨wr.heap.size, 0, none⟩) [UInt8.ofNat (N % 256)] := by
        refine .inr ⟨_, 0, rfl, fun j u hu => ?_⟩
        rcases j with _ | j
        · rw [(Box.new wr _ _).cell]
          cases hu
          simp
        · simp at hu
      have hcv := hrd.text 32 9 5 1 Try.underlying32 Try.underlying5 Try.underlying9
      simp only [List.length_cons, List.length_nil, Nat.zero_add] at hcv
      have hadd := fun w' => run_string_add_sum (P := Try.prog) w' ⟨#[UInt8.ofNat (N % 256)]⟩ ⟨(beN k n).toArray⟩
      clear hrd
      generalize UInt8.ofNat (N % 256) = u at *
      generalize beN k n = bs at *
      go_wp2_with fail
      go_roundw
      case rel =>
        refine ⟨k + 1, by omega, by go_num, ?_, ?_, Hw.out.alloc _⟩
        · rw [Hc.out]
          exact congrArg Value.string (text_cat [u] bs)
        · rw [Hd.out]
          go_num
      case measure => simp [intOf]; omega
    · obtain rfl : k = 8 := by omega
      have hz : decide (n < 256 ^ 8) = ((N : Int) == 0) := by
        rw [← HN.out, Bool.eq_iff_iff]
        simp only [decide_eq_true_eq, beq_iff_eq]
        omega
      have Hz := Lib.hid hz
      clear hz
      go_wp2_with fail
      go_ret2
      exact ⟨by rw [Hz.out]; rfl, Hw.out⟩

end Go.Proofs.Ytjapnkpicefadaa
