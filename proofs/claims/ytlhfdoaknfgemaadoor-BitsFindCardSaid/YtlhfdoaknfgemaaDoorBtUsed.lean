/- How many pages of a map are used. Conditions: none. -/
import Derived.Test.YtlhfdoaknfgemaaDoorBtSetB
import Derived.Test.YtlhfdoaknfgemaaDoorBtTz
namespace Go.Proofs.YtlhfdoaknfgemaaDoor
open Go.RowKit

def cntF (f : Nat → Bool) (m : Nat) : Nat := ((List.range m).map f).count true
theorem cntF_add (f : Nat → Bool) (a b : Nat) : cntF f (a + b) = cntF f a + ((List.range b).map fun i => f (a + i)).count true := by
  rw [cntF, List.range_add, List.map_append, List.count_append, List.map_map]; rfl
theorem cntF_le (f : Nat → Bool) (m : Nat) : cntF f m ≤ m := by
  have := List.count_le_length (a := true) (l := (List.range m).map f)
  rw [List.length_map, List.length_range] at this
  exact this
theorem cntF_one (f : Nat → Bool) (a : Nat) : cntF f (a + 1) = cntF f a + if f a then 1 else 0 := by
  rw [cntF_add]
  cases h : f a <;> simp [List.range_succ, h]
theorem cntF_off (f : Nat → Bool) (n b : Nat) (h : ∀ i, n ≤ i → f i = false) : cntF f (n + b) = cntF f n := by
  induction b with
  | zero => rfl
  | succ b ih => rw [← Nat.add_assoc, cntF_one, ih, h (n + b) (by omega)]; rfl
/-- No page is used that there is not. -/
structure Wf (f : Nat → Bool) (n : Nat) : Prop where
  few : n ≤ 1024
  off : ∀ i, n ≤ i → f i = false
theorem Wf.cnt {f : Nat → Bool} {n : Nat} (h : Wf f n) : cntF f 1024 = cntF f n := by
  have := cntF_off f n (1024 - n) h.off
  rwa [Nat.add_sub_cancel' h.few] at this
/-- The words alone. -/
def wcs (f : Nat → Bool) : List Value := (List.range 16).map fun j => Value.int .u64 ((wd f j : Nat) : Int)
theorem wcs_length (f : Nat → Bool) : (wcs f).length = 16 := by simp [wcs]
theorem wcs_get (f : Nat → Bool) (j : Nat) (hj : j < 16) : (wcs f)[j]? = some (.int .u64 ((wd f j : Nat) : Int)) := by
  rw [wcs, List.getElem?_map, List.getElem?_range hj]; rfl
theorem Mp.words {w : World} {g : Nat} {f : Nat → Bool} {n : Nat} (h : Mp w g f n) : w.rangeAt g 0 (wcs f) := fun j v hj => by
  have hl : j < 16 := by have := (List.getElem?_eq_some_iff.1 hj).1; rwa [wcs_length] at this
  rw [wcs_get _ _ hl] at hj
  rw [Nat.zero_add]
  exact (h.word j hl).trans hj
theorem infoArr : (Tryd.prog.info? 25).map (·.size) = some 16 := by kernel_rfl
theorem info_parts0 {P : Program} {t : TypeId} {x : Option Value × Nat × Nat} (h : (P.info? t).map (fun i => (i.zero, i.size, i.bytes)) = some x) : ∃ i, P.info? t = some i ∧ i.zero = x.1 ∧ i.size = x.2.1 ∧ i.bytes = x.2.2 := by
  cases hi : P.info? t with
  | none => rw [hi] at h; cases h
  | some i => rw [hi] at h; cases h; exact ⟨i, rfl, rfl, rfl, rfl⟩
theorem infoU64 : (Tryd.prog.info? 24).map (fun i => (i.zero, i.size, i.bytes)) = some (some (.int .u64 0), 1, 8) := by kernel_rfl
set_option maxHeartbeats 400000 in
theorem used_any (f : Nat → Bool) (n : Nat) (w : World) (h : Wf f n) :
    Calls Tryd.prog 17 #[.agg (mcs f n).toArray] w fun e w' => e = .returned (.int .i64 ((cntF f n : Nat) : Int)) ∧ Kp (fun _ => False) w w' := by
  obtain ⟨W, hW, hb, hk⟩ : ∃ W, W = w.alloc (.cells (mcs f n).toArray 27) ∧ Mp W w.heap.size f n ∧ Kp (fun _ => False) w W := ⟨_, rfl, Mp.new w f n, (Kp.refl _ w).alloc _⟩
  have HW := Lib.hid hW
  have K := Lib.hid hk
  have HB := Lib.hid hb
  clear hW hb hk
  rw [← h.cnt]
  clear h
  have Hg : Hid (∀ j, j < 16 → (wcs f).toArray[j]? = some (.int .u64 ((wd f j : Nat) : Int))) := Lib.hid (fun j hj => (List.getElem?_toArray (xs := wcs f) (i := j)).trans (wcs_get f j hj))
  have Hp := Lib.hid (wd_pop f)
  have Hl := Lib.hid (wd_lt f)
  have Ha := Lib.hid (fun j => cntF_add f (64 * j) 64)
  have Hle := Lib.hid (cntF_le f)
  have Hz : Hid (cntF f 0 = 0) := Lib.hid rfl
  go_enter Tryd.func17, Tryd.ntmps17
  go_upto_region 1 with fail
  rw [← HW.out]
  go_wp2_with (first | (refine wpList_load_mid rfl 25 (.tmp 6) rfl w.heap.size 0 rfl (wcs f) _ (Mp.words HB.out) Tryd.underlying25 rfl ?c2 ?_) | fail)
  case c2 => rw [wcs_length]; exact infoArr
  generalize (wcs f).toArray = KC at *
  clear HB HW
  go_loop [3, 8] (fun s i => ∃ k : Nat, k ≤ 16 ∧ i = .int .i64 k ∧ s = .int .i64 ((cntF f (64 * k) : Nat) : Int)) (fun _ i => 16 - (intOf i).toNat)
  case atStart => exact ⟨0, by omega, rfl, by rw [Nat.mul_zero, Hz.out]; rfl⟩
  case round =>
    obtain ⟨k, hk, rfl, rfl⟩ := hrel
    by_cases hlt : k < 16
    · have hkk : (k : Int) < 16 := by omega
      obtain ⟨i0, hi, hz0, hz1, hz2⟩ := info_parts0 infoU64
      have hidx := fun w => run_index_agg (P := Tryd.prog) w 25 24 16 .i64 .u64 KC k _ i0 Tryd.underlying25 Tryd.underlying24 hi hz1 hlt (Hg.out k hlt)
      have hpop := Hp.out k
      have hlk := Hl.out k
      have hak := Lib.hid (Ha.out k)
      have hc0 := Hle.out (64 * k)
      have hc1 := List.count_le_length (a := true) (l := (List.range 64).map fun i => f (64 * k + i))
      rw [List.length_map, List.length_range] at hc1
      clear hi hz0 hz1 hz2
      generalize ((List.range 64).map fun i => f (64 * k + i)).count true = d at *
      obtain ⟨x, hx⟩ : ∃ x, wd f k = x := ⟨_, rfl⟩
      rw [hx] at hidx hpop hlk
      obtain ⟨c, hc⟩ : ∃ c, cntF f (64 * k) = c := ⟨_, rfl⟩
      rw [hc] at hak hc0 ⊢
      have HP := Lib.hid (pop_any x d W hlk hpop)
      have hcu : c ≤ 1024 := by omega
      clear hc hx hlk hpop
      go_wp2_with fail
      refine (HP.out).mono ?_
      rintro e w' ⟨rfl, rfl⟩
      go_wp2_with fail
      go_round
      case rel => exact ⟨k + 1, by omega, by go_num, by rw [show 64 * (k + 1) = 64 * k + 64 by omega, hak.out, Int.natCast_add]⟩
      case measure => simp [intOf]; omega
    · obtain rfl : k = 16 := by omega
      go_wp2_with fail
      go_ret
      exact ⟨rfl, K.out⟩
end Go.Proofs.YtlhfdoaknfgemaaDoor
