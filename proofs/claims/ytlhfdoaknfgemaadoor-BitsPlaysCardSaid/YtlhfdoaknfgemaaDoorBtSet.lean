/- Has and Set of a map: what each one answers. Conditions: at most 1024 pages. -/
import Derived.Test.YtlhfdoaknfgemaaDoorBtNew
import Derived.StillTailTactics
namespace Go.Proofs.YtlhfdoaknfgemaaDoor
open Go.RowKit

/-- Whether a page is used, as Has tells. -/
def hasB (f : Nat → Bool) (n : Nat) (i : Int) : Bool := !pgB n i || f i.toNat
theorem int_one (b : Bool) : (((if b then 1 else 0 : Nat) : Int) == 1) = b := by cases b <;> rfl
set_option maxHeartbeats 400000 in
theorem has_any (f : Nat → Bool) (n : Nat) (i : Int) (w : World) (hn : n ≤ 1024) :
    Calls Tryd.prog 18 #[.agg (mcs f n).toArray, .int .i64 i] w fun e w' => e = .returned (.bool (hasB f n i)) ∧ Kp (fun _ => False) w w' := by
  obtain ⟨W, hW, hb, hk⟩ : ∃ W, W = w.alloc (.cells (mcs f n).toArray 27) ∧ Mp W w.heap.size f n ∧ Kp (fun _ => False) w W := ⟨_, rfl, Mp.new w f n, (Kp.refl _ w).alloc _⟩
  have HW := Lib.hid hW
  have K := Lib.hid hk
  have HB := Lib.hid hb
  clear hW hb hk
  have hp := Lib.hid (ispage_any f n i W)
  rcases hpg : pgB n i with _ | _
  · have hx : hasB f n i = true := by simp [hasB, hpg]
    rw [hx]
    rw [hpg] at hp
    clear hx hpg
    go_enter Tryd.func18, Tryd.ntmps18
    go_upto_region 1 with fail
    rw [← HW.out]
    go_wp2_with (first | (refine wpList_load_mid rfl 27 (.tmp 2) rfl w.heap.size 0 rfl (mcs f n) _ (Mp.range HB.out) Tryd.underlying27 rfl (infoMca _ _) ?_) | fail)
    refine hp.out.mono ?_
    rintro e w1 ⟨rfl, k1⟩
    have K1 := Lib.hid (K.out.trans k1)
    clear k1
    go_wp2_with fail
    go_ret
    exact ⟨rfl, K1.out⟩
  · obtain ⟨h0, h1⟩ : 0 ≤ i ∧ i < n := by simpa [pgB] using hpg
    rw [hpg] at hp
    have hx : hasB f n i = f i.toNat := by simp [hasB, hpg]
    rw [hx]
    obtain ⟨k, rfl⟩ := Int.eq_ofNat_of_zero_le h0
    have hk : k < 1024 := by omega
    have e1 : ((k : Int)).toNat = k := rfl
    rw [e1]
    clear hx hpg h0 h1 e1
    have hq : k / 64 < 16 := by omega
    have hs : k % 64 < 64 := Nat.mod_lt _ (by decide)
    have hbit : Hid (f k = (wd f (k / 64)).testBit (k % 64)) := Lib.hid (by
      rw [wd_bit, show 64 * (k / 64) + k % 64 = k by omega]; simp [hs])
    have hpl := Lib.hid (place_any k)
    have y := fun w1 (hk : Kp (fun _ => False) W w1) => (HB.out.kp hk (fun h => h)).word (k / 64) hq
    have Y := Lib.hid y
    have hxl := wd_lt f (k / 64)
    have Hx := Lib.hid hxl
    rw [hbit.out]
    clear y hbit hxl
    obtain ⟨q, hqe⟩ : ∃ q, k / 64 = q := ⟨_, rfl⟩
    obtain ⟨s, hse⟩ : ∃ s, k % 64 = s := ⟨_, rfl⟩
    rw [hqe] at hq
    rw [hse] at hs
    rw [hqe, hse] at hpl ⊢
    rw [hqe] at Y Hx
    obtain ⟨x, hxe⟩ : ∃ x, wd f q = x := ⟨_, rfl⟩
    rw [hxe] at Y Hx ⊢
    have hb1 := bit_one x s
    have hbit : bits .and .u64 ((x / 2 ^ s : Nat) : Int) 1 = ((if x.testBit s then 1 else 0 : Nat) : Int) := by
      rw [← hb1]
      exact u64_and_nat (x / 2 ^ s) 1 (Nat.lt_of_le_of_lt (Nat.div_le_self _ _) Hx.out) (by decide)
    have hfin : (bits .and .u64 ((x / 2 ^ s : Nat) : Int) 1 == 1) = x.testBit s := by rw [hbit, int_one]
    have Hf := Lib.hid hfin
    clear hqe hse hxe hb1 hbit hfin
    have hqi : (q : Int) < 16 := by omega
    have hsi : (s : Int) < 64 := by omega
    go_enter Tryd.func18, Tryd.ntmps18
    go_upto_region 1 with fail
    rw [← HW.out]
    go_wp2_with (first | (refine wpList_load_mid rfl 27 (.tmp 2) rfl w.heap.size 0 rfl (mcs f n) _ (Mp.range HB.out) Tryd.underlying27 rfl (infoMca _ _) ?_) | fail)
    refine hp.out.mono ?_
    rintro e w1 ⟨rfl, k1⟩
    have K1 := Lib.hid (K.out.trans k1)
    have y1 := Y.out w1 k1
    clear k1
    go_wp2_with fail
    refine (hpl.out w1 (by omega)).mono ?_
    rintro e w1 ⟨rfl, rfl⟩
    go_wp2_with fail
    go_ret
    exact ⟨by rw [← Hf.out]; simp, K1.out⟩

end Go.Proofs.YtlhfdoaknfgemaaDoor
