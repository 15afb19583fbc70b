/- The document's own height and size of a chunk, and its own bytes of a number. Condition: at most 1000 children. -/
import Derived.Test.YtoonihhjdmkflaaChSame
import Derived.Test.YtoonihhjdmkflaaRfBytes
namespace Go.Proofs.Ytoonihhjdmkflaa
open Go.RowKit

set_option maxHeartbeats 400000 in
theorem rnum1 (n : Nat) (w : World) (hn : n < 256) :
    Calls Try.prog 39 #[.int .i64 1, .int .u64 n] w fun e w' => e = .returned (.string ⟨(beN 1 n).toArray⟩) ∧ Kp (fun _ => False) w w' := by
  go_enter Try.func39, Try.ntmps39
  go_wp2_with fail
  refine (num_fine1 n w (by omega)).mono ?_
  rintro e w1 ⟨rfl, k1⟩
  have K1 := Lib.hid k1
  clear k1
  go_wp2_with fail
  go_ret
  exact ⟨rfl, K1.out⟩
set_option maxHeartbeats 400000 in
theorem rnum4 (n : Nat) (w : World) (hn : n < 4294967296) :
    Calls Try.prog 39 #[.int .i64 4, .int .u64 n] w fun e w' => e = .returned (.string ⟨(beN 4 n).toArray⟩) ∧ Kp (fun _ => False) w w' := by
  go_enter Try.func39, Try.ntmps39
  go_wp2_with fail
  refine (num_fine4 n w (by omega)).mono ?_
  rintro e w1 ⟨rfl, k1⟩
  have K1 := Lib.hid k1
  clear k1
  go_wp2_with fail
  go_ret
  exact ⟨rfl, K1.out⟩
theorem hi_take {l : List Kd} {k : Nat} {x : Kd} (hx : l[k]? = some x) : hiN 0 (l.take (k + 1)) = max (hiN 0 (l.take k)) x.ht := by
  have hlt : k < l.length := (List.getElem?_eq_some_iff.1 hx).1
  rw [take_snoc _ _ hlt, hiN_snoc]
  rw [List.getElem?_eq_getElem hlt] at hx
  cases hx
  rfl
set_option maxRecDepth 100000 in
set_option maxHeartbeats 2000000 in
theorem rheight_any (c : Ck) (A : Option Addr) (n : Nat) (w : World) (h : CkR w c A n) :
    Calls Try.prog 37 #[.agg (ccs c A n)] w fun e w' => e = .returned (.int .i64 (heightN c)) ∧ Kp (fun _ => False) w w' := by
  obtain ⟨W, hW, b0, k0⟩ : ∃ W, W = w.alloc (.cells (ccs c A n) 32) ∧ Box W w.heap.size 32 (ccs c A n) ∧ Kp (fun _ => False) w W := ⟨_, rfl, Box.new w _ _, (Kp.refl _ w).alloc _⟩
  have HW := Lib.hid hW
  have K0 := Lib.hid k0
  have HR := Lib.hid (h.still k0)
  have y0 : W.cell? ⟨w.heap.size, 0, none⟩ = some (.int .u8 c.kind) := b0.cell 0
  have y2 : W.cell? ⟨w.heap.size, 2, none⟩ = some (.slice A c.kids.length n) := b0.cell 2
  have hlen : c.kids.length ≤ maxLen := Nat.le_trans h.le h.mx
  unfold maxLen at hlen
  clear hW b0 k0 h
  rcases hl : ldB c.kind with _ | _
  · have HH : Hid (heightN c = 0) := Lib.hid (by unfold heightN; rw [hl]; rfl)
    have d2 : ((c.kind : Int) != 2) = true := by unfold ldB at hl; simp at hl ⊢; omega
    have d3 : ((c.kind : Int) != 3) = true := by unfold ldB at hl; simp at hl ⊢; omega
    clear hl
    go_enter Try.func37, Try.ntmps37
    go_upto_region 1 with fail
    rw [← HW.out]
    go_wp2_with fail
    go_ret
    rw [HH.out]
    exact ⟨rfl, K0.out⟩
  · have HH : Hid (heightN c = hiN 0 c.kids + 1) := Lib.hid (by unfold heightN; rw [hl]; rfl)
    go_enter Try.func37, Try.ntmps37
    go_upto_region 1 with fail
    rw [← HW.out]
    have hk : c.kind = 2 ∨ c.kind = 3 := by unfold ldB at hl; simpa using hl
    clear hl
    rcases hk with hk | hk
    all_goals
      first | (have d2 : ((c.kind : Int) != 2) = false := (by simp; omega)) | (have d2 : ((c.kind : Int) != 2) = true := (by simp; omega); have d3 : ((c.kind : Int) != 3) = false := (by simp; omega))
      clear hk
      go_upto_region 5 with fail
      try clear d3
      clear y0 d2
      go_loopw [3, 4] (fun s3 s4 wr => ∃ k : Nat, k ≤ c.kids.length ∧ s4 = .int .i64 k ∧ s3 = .int .i64 (hiN 0 (c.kids.take k) + 1 : Nat) ∧ W = wr) (fun _ s4 _ => c.kids.length - (Go.RowKit.intOf s4).toNat)
      case atStart => exact ⟨0, Nat.zero_le _, rfl, rfl, rfl⟩
      case round =>
        obtain ⟨k, hk, rfl, rfl, rfl⟩ := hrel
        have hlt256 : hiN 0 (c.kids.take k) < 256 := hiN_lt _ _ (by decide) fun x hx => (HR.out.ok.2 x (List.mem_of_mem_take hx)).2.1
        obtain ⟨m, hm⟩ : ∃ m, m = hiN 0 (c.kids.take k) := ⟨_, rfl⟩
        rw [← hm] at hlt256 ⊢
        have HM := Lib.hid hm
        clear hm
        by_cases hlt : k < c.kids.length
        · obtain ⟨x, hx⟩ : ∃ x, c.kids[k]? = some x := ⟨_, List.getElem?_eq_getElem hlt⟩
          obtain ⟨b, o, hA, hrg⟩ := HR.out.k.at hx
          have xok : x.Ok := HR.out.ok.2 x (List.mem_of_getElem? hx)
          have hx2 := xok.2.1
          obtain ⟨p, hp⟩ : ∃ p, o + k * 36 = p := ⟨_, rfl⟩
          rw [show o + 36 * k = p by omega] at hrg
          have yh := (kid_cells hrg xok).2.2.1
          have HN := Lib.hid (hi_take hx)
          clear hrg hx xok
          rw [hA] at y2
          by_cases hge : m + 1 ≤ x.ht
          · have d : ((m + 1 : Nat) : Int) ≤ (x.ht : Int) := by omega
            go_wp2_with fail
            go_roundw
            case rel => exact ⟨k + 1, by omega, by go_num, by rw [HN.out, ← HM.out, show max m x.ht = x.ht by omega]; go_num, trivial⟩
            case measure => simp [Go.RowKit.intOf]; omega
          · have d : ¬ ((m + 1 : Nat) : Int) ≤ (x.ht : Int) := by omega
            go_wp2_with fail
            go_roundw
            case rel => exact ⟨k + 1, by omega, by go_num, by rw [HN.out, ← HM.out, show max m x.ht = m by omega], trivial⟩
            case measure => simp [Go.RowKit.intOf]; omega
        · obtain rfl : k = c.kids.length := by omega
          rw [List.take_length] at HM
          clear hlt hk
          go_wp2_with fail
          go_ret
          rw [HH.out, ← HM.out]
          exact ⟨rfl, K0.out⟩
set_option maxRecDepth 100000 in
set_option maxHeartbeats 2000000 in
/-- Of an index. -/
theorem rsize2 (c : Ck) (A : Option Addr) (n : Nat) (w : World) (h : CkR w c A n) (h1000 : c.kids.length ≤ 1000) (h2 : c.kind = 2) :
    Calls Try.prog 38 #[.agg (ccs c A n)] w fun e w' => e = .returned (.int .u64 (sizeN c)) ∧ Kp (fun _ => False) w w' := by
  obtain ⟨W, hW, b0, k0⟩ : ∃ W, W = w.alloc (.cells (ccs c A n) 32) ∧ Box W w.heap.size 32 (ccs c A n) ∧ Kp (fun _ => False) w W := ⟨_, rfl, Box.new w _ _, (Kp.refl _ w).alloc _⟩
  have HW := Lib.hid hW
  have K0 := Lib.hid k0
  have HR := Lib.hid (h.still k0)
  have y0 : W.cell? ⟨w.heap.size, 0, none⟩ = some (.int .u8 c.kind) := b0.cell 0
  have y2 : W.cell? ⟨w.heap.size, 2, none⟩ = some (.slice A c.kids.length n) := b0.cell 2
  have HH : Hid (sizeN c = smN c.kids) := Lib.hid (by unfold sizeN ldB; rw [h2]; rfl)
  have d3 : ((c.kind : Int) == 3) = false := by simp; omega
  have d2 : ((c.kind : Int) != 2) = false := by simp; omega
  clear hW b0 k0 h h2
  go_enter Try.func38, Try.ntmps38
  go_upto_region 1 with fail
  rw [← HW.out]
  go_upto_region 7 with fail
  clear y0 d2 d3
  go_loopw [3, 4] (fun s3 s4 wr => ∃ k : Nat, k ≤ c.kids.length ∧ s4 = .int .i64 k ∧ s3 = .int .u64 (smN (c.kids.take k) : Nat) ∧ W = wr) (fun _ s4 _ => c.kids.length - (Go.RowKit.intOf s4).toNat)
  case atStart => exact ⟨0, Nat.zero_le _, rfl, rfl, rfl⟩
  case round =>
    obtain ⟨k, hk, rfl, rfl, rfl⟩ := hrel
    have hsm := smN_le (c.kids.take k) fun x hx => HR.out.ok.2 x (List.mem_of_mem_take hx)
    rw [List.length_take] at hsm
    obtain ⟨m, hm⟩ : ∃ m, m = smN (c.kids.take k) := ⟨_, rfl⟩
    rw [← hm] at hsm ⊢
    have HM := Lib.hid hm
    have hmb : m ≤ 4294967296000 := by omega
    clear hm hsm
    by_cases hlt : k < c.kids.length
    · obtain ⟨x, hx⟩ : ∃ x, c.kids[k]? = some x := ⟨_, List.getElem?_eq_getElem hlt⟩
      obtain ⟨b, o, hA, hrg⟩ := HR.out.k.at hx
      have xok : x.Ok := HR.out.ok.2 x (List.mem_of_getElem? hx)
      have hx2 := xok.2.2
      obtain ⟨p, hp⟩ : ∃ p, o + k * 36 = p := ⟨_, rfl⟩
      rw [show o + 36 * k = p by omega] at hrg
      have yh := (kid_cells hrg xok).2.2.2.1
      have HN := Lib.hid (smN_take _ _ _ hx)
      clear hrg hx xok
      rw [hA] at y2
      go_wp2_with fail
      go_roundw
      case rel => exact ⟨k + 1, by omega, by go_num, by rw [HN.out, ← HM.out]; go_num, trivial⟩
      case measure => simp [Go.RowKit.intOf]; omega
    · obtain rfl : k = c.kids.length := by omega
      rw [List.take_length] at HM
      clear hlt hk
      go_wp2_with fail
      go_ret
      rw [HH.out, ← HM.out]
      exact ⟨rfl, K0.out⟩
end Go.Proofs.Ytoonihhjdmkflaa
