/- Set of a map: what it answers. Conditions: at most 1024 pages. -/
import Derived.Test.YtlhfdoaknfgemaaDoorBtSet
import Derived.StillTailTactics
namespace Go.Proofs.YtlhfdoaknfgemaaDoor
open Go.RowKit


theorem wrap64_of (p : Nat) (h : p < 18446744073709551616) : IntKind.u64.wrap (p : Int) = (p : Int) := by
  rw [IntKind.wrap_u64]
  omega
/-- The pages, of which one is used, or not. -/
def setF (f : Nat → Bool) (n : Nat) (i : Int) (u : Bool) : Nat → Bool := if pgB n i then upd f i.toNat u else f
set_option maxHeartbeats 1000000 in
theorem set_any (f : Nat → Bool) (n : Nat) (i : Int) (u : Bool) (w : World) (hn : n ≤ 1024) :
    Calls Tryd.prog 9 #[.agg (mcs f n).toArray, .int .i64 i, .bool u] w fun e w' => e = .returned (.agg (mcs (setF f n i u) n).toArray) ∧ Kp (fun _ => False) w w' := by
  have Hr : Hid (Tryd.f9.results = #[.cell 6 27]) := Lib.hid (by kernel_rfl)
  obtain ⟨W, hW, hb, hz, hk⟩ : ∃ W, W = (w.alloc (.cells (mcs f n).toArray 27)).alloc (.cells #[.int .u64 0, .int .u64 0, .int .u64 0, .int .u64 0, .int .u64 0, .int .u64 0, .int .u64 0, .int .u64 0, .int .u64 0, .int .u64 0, .int .u64 0, .int .u64 0, .int .u64 0, .int .u64 0, .int .u64 0, .int .u64 0, .int .i64 0] 27) ∧ Mp W w.heap.size f n ∧ Box W (w.heap.size + 1) 27 #[.int .u64 0, .int .u64 0, .int .u64 0, .int .u64 0, .int .u64 0, .int .u64 0, .int .u64 0, .int .u64 0, .int .u64 0, .int .u64 0, .int .u64 0, .int .u64 0, .int .u64 0, .int .u64 0, .int .u64 0, .int .u64 0, .int .i64 0] ∧ Kp (fun _ => False) w W := by
    refine ⟨_, rfl, (Mp.new w f n).alloc _, ?_, ((Kp.refl _ w).alloc _).alloc _⟩
    have := Box.new (w.alloc (.cells (mcs f n).toArray 27)) 27 #[.int .u64 0, .int .u64 0, .int .u64 0, .int .u64 0, .int .u64 0, .int .u64 0, .int .u64 0, .int .u64 0, .int .u64 0, .int .u64 0, .int .u64 0, .int .u64 0, .int .u64 0, .int .u64 0, .int .u64 0, .int .u64 0, .int .i64 0]
    rw [World.size_alloc] at this
    exact this
  have HW := Lib.hid hW
  have K := Lib.hid hk
  have HB := Lib.hid hb
  have HZ := Lib.hid hz
  clear hW hb hk hz
  have hp := Lib.hid (ispage_any f n i W)
  rcases hpg : pgB n i with _ | _
  · have hx : setF f n i u = f := by simp [setF, hpg]
    rw [hx]
    rw [hpg] at hp
    clear hx hpg
    go_enter Tryd.func9, Tryd.ntmps9
    go_upto_region 1 with fail
    rw [← HW.out]
    go_wp2_with (first | (refine wpList_load_mid rfl 27 (.tmp 3) rfl w.heap.size 0 rfl (mcs f n) _ (Mp.range HB.out) Tryd.underlying27 rfl (infoMca _ _) ?_) | fail)
    refine hp.out.mono ?_
    rintro e w1 ⟨rfl, k1⟩
    have K1 := Lib.hid (K.out.trans k1)
    have HB1 := Lib.hid (HB.out.kp k1 (fun h => h))
    have HZ1 := Lib.hid (HZ.out.kp k1 (fun h => h))
    clear k1
    go_wp2_with (first | (refine wpList_load_mid rfl 27 (.tmp 3) rfl w.heap.size 0 rfl (mcs f n) _ (Mp.range HB1.out) Tryd.underlying27 rfl (infoMca _ _) ?_) | (refine bstore_box rfl 27 (.tmp 6) (.tmp 13) rfl (w.heap.size + 1) (mcs f n) rfl rfl HZ1.out (by rw [mcs_length]; rfl) (infoMcs _ _) (mcs_one _ _) ?_; intro w5 hb5 hk5) | fail)
    refine bodyPost_ret (v := .agg (mcs f n).toArray) ?_ rfl ⟨rfl, K1.out.trans_new hk5 (fun k e => .inl (by omega))⟩
    exact results_cell_row Hr.out _ _ (w.heap.size + 1) 27 _ (0, 0) _ rfl hb5 Tryd.underlying27 rfl (infoMca _ _)
  · obtain ⟨h0, h1⟩ : 0 ≤ i ∧ i < n := by simpa [pgB] using hpg
    rw [hpg] at hp
    have hx : setF f n i u = upd f i.toNat u := by simp [setF, hpg]
    rw [hx]
    obtain ⟨k, rfl⟩ := Int.eq_ofNat_of_zero_le h0
    have hk : k < 1024 := by omega
    have e1 : ((k : Int)).toNat = k := rfl
    rw [e1]
    clear hx hpg h0 h1 e1
    have hq : k / 64 < 16 := by omega
    have hs : k % 64 < 64 := Nat.mod_lt _ (by decide)
    have hpl := Lib.hid (place_any k)
    have hxl := wd_lt f (k / 64)
    have hyl := wd_lt (upd f k false) (k / 64)
    have h1s : 2 ^ (k % 64) < 18446744073709551616 := Nat.pow_lt_pow_right (a := 2) (n := 64) (by decide) hs
    have hoff := u64_andNot_nat (wd f (k / 64)) (2 ^ (k % 64)) hxl h1s
    rw [wd_clear] at hoff
    have hon := u64_or_nat (wd (upd f k false) (k / 64)) (2 ^ (k % 64)) hyl h1s
    rw [wd_on] at hon
    have hoth : ∀ v j, j ≠ k / 64 → wd (upd f k v) j = wd f j := fun v j hj => wd_other f k v j hj
    have Hoff := Lib.hid hoff
    have Hon := Lib.hid hon
    have Hoth := Lib.hid hoth
    have y := HB.out.word (k / 64) hq
    have fr := HB.out.free (k / 64)
    have hwr : IntKind.u64.wrap ((2 : Int) ^ (k % 64)) = ((2 ^ (k % 64) : Nat) : Int) := by
      have e : ((2 : Int) ^ (k % 64)) = ((2 ^ (k % 64) : Nat) : Int) := by simp
      rw [e]
      exact wrap64_of _ h1s
    have Hwr := Lib.hid hwr
    clear hoff hon hoth hxl hyl h1s hwr
    obtain ⟨q, hqe⟩ : ∃ q, k / 64 = q := ⟨_, rfl⟩
    obtain ⟨s, hse⟩ : ∃ s, k % 64 = s := ⟨_, rfl⟩
    rw [hqe] at hq
    rw [hse] at hs
    rw [hqe, hse] at hpl
    rw [hqe, hse] at Hoff Hon
    rw [hse] at Hwr
    rw [hqe] at Hoth y fr
    clear hqe hse
    have hqi : (q : Int) < 16 := by omega
    have hsi : (s : Int) < 64 := by omega
    go_enter Tryd.func9, Tryd.ntmps9
    go_upto_region 1 with fail
    rw [← HW.out]
    go_wp2_with (first | (refine wpList_load_mid rfl 27 (.tmp 3) rfl w.heap.size 0 rfl (mcs f n) _ (Mp.range HB.out) Tryd.underlying27 rfl (infoMca _ _) ?_) | fail)
    refine hp.out.mono ?_
    rintro e w1 ⟨rfl, k1⟩
    have K1 := Lib.hid (K.out.trans k1)
    have HB1 := Lib.hid (HB.out.kp k1 (fun h => h))
    have HZ1 := Lib.hid (HZ.out.kp k1 (fun h => h))
    clear k1 y fr
    go_wp2_with fail
    refine (hpl.out w1 (by omega)).mono ?_
    rintro e w1 ⟨rfl, rfl⟩
    have y := HB1.out.word q hq
    have fr := HB1.out.free q
    go_wp2_with fail
    go_still_tail 9, (by kernel_rfl)
    change wpList _ _ _ _ _ w1.drew
    go_upto_region 5 with fail
    have hb2 : Mp (w1.setCell ⟨w.heap.size, q, none⟩ (.int .u64 (bits .andNot .u64 ((wd f q : Nat) : Int) (IntKind.u64.wrap (2 ^ s))))).drew w.heap.size (upd f k false) n :=
      (HB1.out.put q hq _ (by rw [Hwr.out, Hoff.out]) (Hoth.out false)).drew
    have hz2 : Box (w1.setCell ⟨w.heap.size, q, none⟩ (.int .u64 (bits .andNot .u64 ((wd f q : Nat) : Int) (IntKind.u64.wrap (2 ^ s))))).drew (w.heap.size + 1) 27 #[.int .u64 0, .int .u64 0, .int .u64 0, .int .u64 0, .int .u64 0, .int .u64 0, .int .u64 0, .int .u64 0, .int .u64 0, .int .u64 0, .int .u64 0, .int .u64 0, .int .u64 0, .int .u64 0, .int .u64 0, .int .u64 0, .int .i64 0] := (HZ1.out.far (p := ⟨w.heap.size, q, none⟩) (by simp) _).drew
    have k2 : Kp (fun _ => False) w (w1.setCell ⟨w.heap.size, q, none⟩ (.int .u64 (bits .andNot .u64 ((wd f q : Nat) : Int) (IntKind.u64.wrap (2 ^ s))))).drew := (K1.out.setCell (p := ⟨w.heap.size, q, none⟩) (.inl (Nat.le_refl _)) _).drew
    generalize (w1.setCell ⟨w.heap.size, q, none⟩ (.int .u64 (bits .andNot .u64 ((wd f q : Nat) : Int) (IntKind.u64.wrap (2 ^ s))))).drew = w2 at hb2 hz2 k2 ⊢
    have HB2 := Lib.hid hb2
    have HZ2 := Lib.hid hz2
    have K2 := Lib.hid k2
    clear y fr hb2 hz2 k2
    rcases u with _ | _
    · go_wp2_with (first | (refine wpList_load_mid rfl 27 (.tmp 3) rfl w.heap.size 0 rfl (mcs (upd f k false) n) _ (Mp.range HB2.out) Tryd.underlying27 rfl (infoMca _ _) ?_) | (refine bstore_box rfl 27 (.tmp 6) (.tmp 38) rfl (w.heap.size + 1) (mcs (upd f k false) n) rfl rfl HZ2.out (by rw [mcs_length]; rfl) (infoMcs _ _) (mcs_one _ _) ?_; intro w5 hb5 hk5) | fail)
      refine bodyPost_ret (v := .agg (mcs (upd f k false) n).toArray) ?_ rfl ⟨rfl, K2.out.trans_new hk5 (fun k e => .inl (by omega))⟩
      exact results_cell_row Hr.out _ _ (w.heap.size + 1) 27 _ (0, 0) _ rfl hb5 Tryd.underlying27 rfl (infoMca _ _)
    · have y := HB2.out.word q hq
      have fr := HB2.out.free q
      go_wp2_with fail
      go_still_tail 9, (by kernel_rfl)
      change wpList _ _ _ _ _ w2.drew
      go_upto_region 7 with fail
      have hb3 : Mp (w2.setCell ⟨w.heap.size, q, none⟩ (.int .u64 (bits .or .u64 ((wd (upd f k false) q : Nat) : Int) (IntKind.u64.wrap (2 ^ s))))).drew w.heap.size (upd f k true) n :=
        (HB2.out.put q hq _ (by rw [Hwr.out, Hon.out]) (fun j hj => (Hoth.out true j hj).trans (Hoth.out false j hj).symm)).drew
      have hz3 : Box (w2.setCell ⟨w.heap.size, q, none⟩ (.int .u64 (bits .or .u64 ((wd (upd f k false) q : Nat) : Int) (IntKind.u64.wrap (2 ^ s))))).drew (w.heap.size + 1) 27 #[.int .u64 0, .int .u64 0, .int .u64 0, .int .u64 0, .int .u64 0, .int .u64 0, .int .u64 0, .int .u64 0, .int .u64 0, .int .u64 0, .int .u64 0, .int .u64 0, .int .u64 0, .int .u64 0, .int .u64 0, .int .u64 0, .int .i64 0] := (HZ2.out.far (p := ⟨w.heap.size, q, none⟩) (by simp) _).drew
      have k3 : Kp (fun _ => False) w (w2.setCell ⟨w.heap.size, q, none⟩ (.int .u64 (bits .or .u64 ((wd (upd f k false) q : Nat) : Int) (IntKind.u64.wrap (2 ^ s))))).drew := (K2.out.setCell (p := ⟨w.heap.size, q, none⟩) (.inl (Nat.le_refl _)) _).drew
      generalize (w2.setCell ⟨w.heap.size, q, none⟩ (.int .u64 (bits .or .u64 ((wd (upd f k false) q : Nat) : Int) (IntKind.u64.wrap (2 ^ s))))).drew = w3 at hb3 hz3 k3 ⊢
      have HB3 := Lib.hid hb3
      have HZ3 := Lib.hid hz3
      have K3 := Lib.hid k3
      clear y fr hb3 hz3 k3
      go_wp2_with (first | (refine wpList_load_mid rfl 27 (.tmp 3) rfl w.heap.size 0 rfl (mcs (upd f k true) n) _ (Mp.range HB3.out) Tryd.underlying27 rfl (infoMca _ _) ?_) | (refine bstore_box rfl 27 (.tmp 6) (.tmp 38) rfl (w.heap.size + 1) (mcs (upd f k true) n) rfl rfl HZ3.out (by rw [mcs_length]; rfl) (infoMcs _ _) (mcs_one _ _) ?_; intro w5 hb5 hk5) | fail)
      refine bodyPost_ret (v := .agg (mcs (upd f k true) n).toArray) ?_ rfl ⟨rfl, K3.out.trans_new hk5 (fun k e => .inl (by omega))⟩
      exact results_cell_row Hr.out _ _ (w.heap.size + 1) 27 _ (0, 0) _ rfl hb5 Tryd.underlying27 rfl (infoMca _ _)
end Go.Proofs.YtlhfdoaknfgemaaDoor
