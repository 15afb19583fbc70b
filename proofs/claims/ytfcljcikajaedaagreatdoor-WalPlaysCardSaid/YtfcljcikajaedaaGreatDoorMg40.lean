/- The document's own sheets of a text. Condition: at most 2^20 bytes. -/
import Derived.Test.YtfcljcikajaedaaGreatDoorMg27
namespace Go.Proofs.YtfcljcikajaedaaGreatDoor
open Go.RowKit

theorem info_rrow : (Tryz.prog.info? 102).map (fun i => (i.zero, i.size, i.bytes)) = some (some (.agg #[.int .u64 0, .bool false, .string ⟨#[]⟩]), 3, 32) := by kernel_rfl
theorem one3 (s : Sh) : ∀ u ∈ (cells3 s).toList, u.oneCell' = true := by
  intro u hu
  simp only [cells3, List.mem_cons, List.not_mem_nil, or_false] at hu
  rcases hu with rfl | rfl | rfl <;> rfl
theorem new3 (w : World) (s : Sh) (t : TypeId) : ∀ (j : Nat) (u : Value), (cells3 s).toList[j]? = some u → (w.alloc (.cells (cells3 s) t)).cell? ((⟨w.heap.size, 0, none⟩ : Addr).add j) = some u := by
  intro j u hu
  have e : (⟨w.heap.size, 0, none⟩ : Addr).add j = ⟨w.heap.size, j, none⟩ := by unfold Addr.add; split <;> simp_all
  rw [e, (Box.new w t _).cell]
  simpa using hu

set_option maxRecDepth 100000 in
set_option maxHeartbeats 2000000 in
theorem rcut_any (q : Nat) (tx : List UInt8) (w : World) (hq : q < 18446744073709551616) (hm : tx.length ≤ 1048576) :
    Calls Tryz.prog 50 #[.int .u64 q, .string ⟨tx.toArray⟩] w fun e w' => ∃ v, e = .returned v ∧ w'.ownsRow w.heap.size 102 3 v (need tx.length) (rowS (cutL q tx)) ∧ Kp (fun _ => False) w w' := by
  obtain ⟨i0, hi, hz0, hz1, hz2⟩ := info3 info_rrow
  obtain ⟨m, hnm⟩ : ∃ m, need tx.length = m := ⟨_, rfl⟩
  have hml : m ≤ 1048576 := by rw [← hnm]; unfold need; omega
  have h0 : ((0 : Nat) : Int) = 0 := rfl
  go_enter Tryz.func50, Tryz.ntmps50
  go_wp2_with fail
  go_loopw [0, 1, 5] (fun s0 s1 s5 wr => ∃ k : Nat, k < m ∧ s0 = .int .u64 (((q + k) % 18446744073709551616 : Nat) : Int) ∧ s1 = .string ⟨(tx.drop (497 * k)).toArray⟩ ∧ wr.ownsRow w.heap.size 102 3 s5 k (rowS ((cutL q tx).take k)) ∧ Kp (fun _ => False) w wr) (fun _ s1 _ _ => strLen s1)
  case atStart => exact ⟨0, by have := need_pos tx.length; omega, by rw [Nat.add_zero, Nat.mod_eq_of_lt hq], by rw [Nat.mul_zero, List.drop_zero], World.ownsRow_nil _ _ _ _, Kp.refl _ _⟩
  case round =>
    obtain ⟨k, hk, rfl, rfl, hown, hkp⟩ := hrel
    have hnn : need tx.length = m := hnm
    have hat := at_next q k
    have hdr : tx.drop (497 * (k + 1)) = (tx.drop (497 * k)).drop 497 := by rw [List.drop_drop, Nat.mul_succ]
    have hrl : (tx.drop (497 * k)).length = tx.length - 497 * k := List.length_drop ..
    have hbl : (k + 1 == need tx.length) = decide (¬ 497 < (tx.drop (497 * k)).length) := by
      rw [hrl, Bool.eq_iff_iff]
      unfold need at hnn ⊢
      simp
      omega
    have hlt : k + 1 < m ↔ 497 < (tx.drop (497 * k)).length := by
      rw [hrl]
      unfold need at hnn
      omega
    have hct := cutL_take q tx k (by omega)
    obtain ⟨s, hs⟩ : ∃ s, shAt q tx k = s := ⟨_, rfl⟩
    rw [hs] at hct
    simp only [shAt, hbl] at hs
    have hrow := rowS_snoc ((cutL q tx).take k) s
    rw [← hct] at hrow
    have HRow := Lib.hid hrow
    have HOwn := Lib.hid hown
    have KW := Lib.hid hkp
    have HDR := Lib.hid hdr
    have hws := hkp.size
    clear hrl hnn hbl hdr hrow hct hown hkp
    generalize tx.drop (497 * k) = r at *
    obtain ⟨a2, ha2⟩ : ∃ a2, (q + (k + 1)) % 18446744073709551616 = a2 := ⟨_, rfl⟩
    rw [ha2] at hat
    have HA2 := Lib.hid ha2
    clear ha2
    generalize (q + k) % 18446744073709551616 = a at *
    obtain ⟨A1, c1, rfl⟩ := own_shape3 HOwn.out
    by_cases hr : 497 < r.length
    · have hd1 : decide (¬ 497 < r.length) = false := by simpa using hr
      rw [hd1] at hs
      have hx1 := ext_upto r 497
      have hx2 := ext_from r 497 r.length rfl
      have hz : decide ((497 : Int) < (r.length : Int)) = true := by simp; omega
      obtain ⟨p, hp⟩ : ∃ p, r.take 497 = p := ⟨_, rfl⟩
      rw [hp] at hx1 hs
      have hs3 : cells3 s = #[.int .u64 a, .bool false, .string ⟨p.toArray⟩] := by rw [← hs]; rfl
      have hn3 := new3 wr s 102
      rw [hs3] at hn3
      have HS3 := Lib.hid hs3
      have HN3 := Lib.hid hn3
      have hone := one3 s
      rw [hs3] at hone
      have HOne := Lib.hid hone
      have HLT := Lib.hid hlt
      clear hd1 hp hlt hs hs3 hn3 hone
      go_wp2_with (at_builtin; go_must (refine wpList_append_own _ rfl (.tmp 9) (.tmp 14) 99 rfl w.heap.size 102 i0 _ 3 32 Tryz.underlying99 hi hz0 hz1 hz2 rfl (by decide) _ k _ rfl (HOwn.out.alloc _) ⟨wr.heap.size, 0, none⟩ 1 1 [.int .u64 a, .bool false, .string ⟨p.toArray⟩] rfl rfl HN3.out HOne.out (by unfold maxLen; omega) (by omega) (by simp; omega) ?_; intro v' w2 hown2 hgrow2 _; obtain ⟨A', c', rfl⟩ := own_shape3 hown2; have HR2 := Lib.hid hown2; have HG2 := Lib.hid hgrow2; clear hown2 hgrow2))
      have hkw : Kp (fun _ => False) w w2 := (KW.out.alloc (.cells #[.int .u64 a, .bool false, .string ⟨p.toArray⟩] 102)).grown HG2.out (fun j e => .inl ((HOwn.out.lt j e).1))
      go_roundw
      case rel =>
        refine ⟨k + 1, HLT.out.2 hr, by rw [HA2.out], by rw [HDR.out], ?_, hkw⟩
        rw [HRow.out, HS3.out]
        exact HR2.out
      case measure =>
        simp only [strLen]
        show ((r.drop 497).toArray).size < r.toArray.size
        simp
        omega
    · have hd1 : decide (¬ 497 < r.length) = true := by simpa using hr
      rw [hd1, List.take_of_length_le (by omega)] at hs
      have hz : decide ((497 : Int) < (r.length : Int)) = false := by simp; omega
      have hkm : k + 1 = m := by
        have := mt hlt.1 hr
        omega
      have hs3 : cells3 s = #[.int .u64 a, .bool true, .string ⟨r.toArray⟩] := by rw [← hs]; rfl
      have hn3 := new3 wr s 102
      rw [hs3] at hn3
      have HS3 := Lib.hid hs3
      have HN3 := Lib.hid hn3
      have hone := one3 s
      rw [hs3] at hone
      have HOne := Lib.hid hone
      have HKM := Lib.hid hkm
      clear hd1 hlt hs hs3 hn3 hone hkm
      go_wp2_with (at_builtin; go_must (refine wpList_append_own _ rfl (.tmp 20) (.tmp 24) 99 rfl w.heap.size 102 i0 _ 3 32 Tryz.underlying99 hi hz0 hz1 hz2 rfl (by decide) _ k _ rfl (HOwn.out.alloc _) ⟨wr.heap.size, 0, none⟩ 1 1 [.int .u64 a, .bool true, .string ⟨r.toArray⟩] rfl rfl HN3.out HOne.out (by unfold maxLen; omega) (by omega) (by simp; omega) ?_; intro v' w2 hown2 hgrow2 _; obtain ⟨A', c', rfl⟩ := own_shape3 hown2; have HR2 := Lib.hid hown2; have HG2 := Lib.hid hgrow2; clear hown2 hgrow2))
      have hkw : Kp (fun _ => False) w w2 := (KW.out.alloc (.cells #[.int .u64 a, .bool true, .string ⟨r.toArray⟩] 102)).grown HG2.out (fun j e => .inl ((HOwn.out.lt j e).1))
      go_ret
      refine ⟨_, rfl, ?_, hkw⟩
      have e : (cutL q tx).take (k + 1) = cutL q tx := List.take_of_length_le (by rw [cutL_length, hnm]; have := HKM.out; omega)
      have h2 := HR2.out
      have hrow := HRow.out
      rw [e, HS3.out] at hrow
      rw [hrow, ← HKM.out]
      exact h2
end Go.Proofs.YtfcljcikajaedaaGreatDoor
