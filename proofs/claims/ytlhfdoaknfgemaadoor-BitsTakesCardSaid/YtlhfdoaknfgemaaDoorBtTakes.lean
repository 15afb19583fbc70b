/- The law BitsTakes: whatever the bytes and the number, it answers true, and nothing that was there is turned. Condition: the table of the lowest bit reads as the program's text lays it. -/
import Derived.Test.YtlhfdoaknfgemaaDoorBtTake
import Derived.Test.YtlhfdoaknfgemaaDoorBtRefT
import Derived.Test.YtlhfdoaknfgemaaDoorBtSame
import Derived.Test.YtlhfdoaknfgemaaDoorBtWake
import Derived.Test.YtlhfdoaknfgemaaDoorBtEq
namespace Go.Proofs.YtlhfdoaknfgemaaDoor
open Go.RowKit

theorem bitL_far (l : List UInt8) (i : Nat) (h : 8 * l.length ≤ i) : bitL l i = false := by
  unfold bitL
  rw [List.getD_eq_getElem?_getD, List.getElem?_eq_none (by omega)]; simp
/-- The first bit of no page. -/
theorem first_bad (l : List UInt8) (n : Nat) (hl : l.length = 512) : ∃ jb, jb ≤ 4096 ∧ (∀ i, n ≤ i → i < jb → bitL l i = false) ∧ (jb < 4096 → n ≤ jb ∧ bitL l jb = true) ∧ (jb = 4096 → ∀ i, n ≤ i → bitL l i = false) := by
  obtain ⟨jb, h⟩ := least_is (fun j => !(decide (n ≤ j) && bitL l j)) 4096
  have hlo : ∀ i, n ≤ i → i < jb → bitL l i = false := fun i h1 h2 => by
    have := h.below i h2
    simpa [h1] using this
  refine ⟨jb, h.le, hlo, fun hj => ?_, fun hj i hi => ?_⟩
  · have := h.at_ hj
    simpa using this
  · by_cases h4 : i < 4096
    · exact hlo i hi (by omega)
    · exact bitL_far l i (by omega)
set_option maxRecDepth 100000 in
set_option maxHeartbeats 4000000 in
theorem takes_bad (A : Option Addr) (l : List UInt8) (c : Nat) (i er : Int) (w : World) (hlen : l.length ≤ 600) (hr : Rd w A l) (tb : Tbl w) (he0 : (er != 0) = true)
    (hT : Calls Tryd.prog 14 #[.slice A l.length c, .int .i64 i] w fun e w' => e = .returned (.tuple #[.agg (mcs nof 0).toArray, .int .i64 er]) ∧ Kp (fun _ => False) w w')
    (hR : ∀ W, Calls Tryd.prog 15 #[.string ⟨l.toArray⟩, .int .i64 i] W fun e w' => e = .returned (.tuple #[.slice none 0 0, .int .i64 er]) ∧ Kp (fun _ => False) W w') :
    Calls Tryd.prog 4 #[.slice A l.length c, .int .i64 i] w fun e w' => e = .returned (.bool true) ∧ Kp (fun _ => False) w w' := by
  have HT := Lib.hid hT
  have HR := Lib.hid hR
  have HRd := Lib.hid hr
  have HTb := Lib.hid tb
  have heq := eql_map nof 0
  rw [← zlit] at heq
  have HEQ := Lib.hid heq
  clear hT hR hr tb heq
  have hll : ¬ 600 < l.length := by omega
  go_enter Tryd.func4, Tryd.ntmps4
  go_wp2_with fail
  refine (HT.out).mono ?_
  rintro e w1 ⟨rfl, k1⟩
  have K1 := Lib.hid k1
  clear k1
  rw [← zlit]
  go_upto_region 4 with (first | (refine bstore_box rfl 27 (.tmp 5) (.tmp 17) rfl (w1.heap.size) ([.int .u64 0, .int .u64 0, .int .u64 0, .int .u64 0, .int .u64 0, .int .u64 0, .int .u64 0, .int .u64 0, .int .u64 0, .int .u64 0, .int .u64 0, .int .u64 0, .int .u64 0, .int .u64 0, .int .u64 0, .int .u64 0, .int .i64 0]) rfl rfl (Box.new w1 _ _) rfl infoMap (zone 0) ?_; intro w2 hb2 hk2) | fail)
  have K2 := Lib.hid ((K1.out.alloc (.cells #[.int .u64 0, .int .u64 0, .int .u64 0, .int .u64 0, .int .u64 0, .int .u64 0, .int .u64 0, .int .u64 0, .int .u64 0, .int .u64 0, .int .u64 0, .int .u64 0, .int .u64 0, .int .u64 0, .int .u64 0, .int .u64 0, .int .i64 0] 27)).trans_new hk2 (fun k e => .inl (by have := K1.out.size; omega)))
  have M2 : Hid (Box w2 w1.heap.size 27 #[.int .u64 0, .int .u64 0, .int .u64 0, .int .u64 0, .int .u64 0, .int .u64 0, .int .u64 0, .int .u64 0, .int .u64 0, .int .u64 0, .int .u64 0, .int .u64 0, .int .u64 0, .int .u64 0, .int .u64 0, .int .u64 0, .int .i64 0]) := Lib.hid hb2
  obtain ⟨gm, hgm⟩ : ∃ gm, w1.heap.size = gm := ⟨_, rfl⟩
  rw [hgm] at M2
  have HG := Lib.hid hgm
  rw [HG.out]
  have kt := (HRd.out.kp K2.out (fun _ _ h => h)).text 39 9 5 c Tryd.underlying39 Tryd.underlying5 Tryd.underlying9
  clear hb2 hk2 hgm
  go_wp2_with fail
  refine (HR.out w2).mono ?_
  rintro e w3 ⟨rfl, k3⟩
  have K3 := Lib.hid (K2.out.trans k3)
  have M3 := Lib.hid (M2.out.kp k3 (fun h => h))
  have HT3 := Lib.hid (HTb.out.kp K3.out (fun h => h))
  clear k3 kt
  have hee : (er == er) = true := by simp
  go_upto_region 6 with fail
  refine wp_region_list ?_
  simp only []
  refine wpList_step (fun K hK => ?_)
  go_simp
  refine hK _ _ ?_
  clear hK K
  refine wpList_step (fun K hK => ?_)
  go_simp
  refine hK _ _ ?_
  clear hK K
  refine wpList_step (fun K hK => ?_)
  go_simp
  refine hK _ _ ?_
  clear hK K
  refine wpList_step (fun K hK => ?_)
  go_simp
  refine hK _ _ ?_
  clear hK K
  refine wpList_step (fun K hK => ?_)
  rw [if_pos (by rfl)]
  refine wp_load_mid 27 (.tmp 5) rfl gm 0 rfl ([.int .u64 0, .int .u64 0, .int .u64 0, .int .u64 0, .int .u64 0, .int .u64 0, .int .u64 0, .int .u64 0, .int .u64 0, .int .u64 0, .int .u64 0, .int .u64 0, .int .u64 0, .int .u64 0, .int .u64 0, .int .u64 0, .int .i64 0]) _ (Box.range' (L := [.int .u64 0, .int .u64 0, .int .u64 0, .int .u64 0, .int .u64 0, .int .u64 0, .int .u64 0, .int .u64 0, .int .u64 0, .int .u64 0, .int .u64 0, .int .u64 0, .int .u64 0, .int .u64 0, .int .u64 0, .int .u64 0, .int .i64 0]) M3.out) Tryd.underlying27 rfl infoMap ?_
  refine hK _ _ ?_
  clear hK K
  refine wpList_step (fun K hK => ?_)
  go_simp
  refine hK _ _ ?_
  clear hK K
  refine wpList_step (fun K hK => ?_)
  rw [if_pos (by rfl)]
  refine wp_eql_known 27 27 (.tmp 32) (.tmp 33) rfl #[.int .u64 0, .int .u64 0, .int .u64 0, .int .u64 0, .int .u64 0, .int .u64 0, .int .u64 0, .int .u64 0, .int .u64 0, .int .u64 0, .int .u64 0, .int .u64 0, .int .u64 0, .int .u64 0, .int .u64 0, .int .u64 0, .int .i64 0] #[.int .u64 0, .int .u64 0, .int .u64 0, .int .u64 0, .int .u64 0, .int .u64 0, .int .u64 0, .int .u64 0, .int .u64 0, .int .u64 0, .int .u64 0, .int .u64 0, .int .u64 0, .int .u64 0, .int .u64 0, .int .u64 0, .int .i64 0] _ rfl rfl (by kernel_rfl) (HEQ.out w3) ?_
  refine hK _ _ ?_
  clear hK K
  refine wpList_step (fun K hK => ?_)
  go_simp
  refine hK _ _ ?_
  clear hK K
  refine wpList_step (fun K hK => ?_)
  go_simp
  refine hK _ _ ?_
  clear hK K
  refine wpList_step (fun K hK => ?_)
  go_simp
  refine (wakes_true w3 HT3.out).mono ?_
  rintro e w4 ⟨rfl, k4⟩
  have K4 := Lib.hid (K3.out.trans k4)
  clear k4
  go_simp
  refine hK _ _ ?_
  clear hK K
  refine wpList_step (fun K hK => ?_)
  go_simp
  refine hK _ _ ?_
  clear hK K
  refine wpList_step (fun K hK => ?_)
  go_simp
  refine hK _ _ ?_
  clear hK K
  refine wpList_nil ?_
  go_wp2_with fail
  go_ret
  exact ⟨rfl, K4.out⟩
theorem takes_long (A : Option Addr) (l : List UInt8) (c : Nat) (i : Int) (w : World) (hlen : 600 < l.length) (hm : l.length ≤ maxLen) (tb : Tbl w) :
    Calls Tryd.prog 4 #[.slice A l.length c, .int .i64 i] w fun e w' => e = .returned (.bool true) ∧ Kp (fun _ => False) w w' := by
  unfold maxLen at hm
  have HW := Lib.hid (wakes_true w tb)
  clear tb
  go_enter Tryd.func4, Tryd.ntmps4
  go_wp2_with fail
  refine (HW.out).mono ?_
  rintro e w1 ⟨rfl, k1⟩
  have K1 := Lib.hid k1
  clear k1
  go_wp2_with fail
  go_ret
  exact ⟨rfl, K1.out⟩
set_option maxRecDepth 100000 in
set_option maxHeartbeats 4000000 in
theorem takes_ok (b o c : Nat) (l : List UInt8) (n : Nat) (w : World) (hl : l.length = 512) (h1 : 1 ≤ n) (h2 : n ≤ 1024) (hoff : ∀ i, n ≤ i → bitL l i = false) (hcn : ∀ j u, l[j]? = some u → w.cell? ⟨b, o + j, none⟩ = some (.int .u8 u.toNat)) (tb : Tbl w) :
    Calls Tryd.prog 4 #[.slice (some ⟨b, o, none⟩) 512 c, .int .i64 n] w fun e w' => e = .returned (.bool true) ∧ Kp (fun _ => False) w w' := by
  have HT := Lib.hid (take_ok b o c l n w h1 h2 hl hoff hcn)
  have hr := rtake_page ⟨l.toArray⟩ n 4096
  have e1 : (ByteArray.mk l.toArray).data.toList = l := rfl
  have e2 : (ByteArray.mk l.toArray).size = 512 := by rw [← hl]; exact List.size_toArray
  rw [e1] at hr
  have HR := Lib.hid (fun W => hr W h1 h2 e2 (Nat.le_refl _) (fun i h _ => hoff i h) (fun h => by omega))
  have hsame := same_any
  have HRd : Hid (Rd w (some ⟨b, o, none⟩) l) := Lib.hid (.inr ⟨b, o, rfl, hcn⟩)
  have HTb := Lib.hid tb
  have HF := Lib.hid (bitsOf_fn l n hoff)
  have HL := Lib.hid hl
  clear hr e1 e2 hcn tb hl hoff hsame
  go_enter Tryd.func4, Tryd.ntmps4
  go_wp2_with fail
  refine (HT.out).mono ?_
  rintro e w1 ⟨rfl, k1⟩
  have K1 := Lib.hid k1
  clear k1
  obtain ⟨f, hf⟩ : ∃ f, bitL l = f := ⟨_, rfl⟩
  rw [hf] at HF ⊢
  clear hf
  go_upto_region 4 with (first | (refine bstore_box rfl 27 (.tmp 5) (.tmp 17) rfl (w1.heap.size) (mcs f n) rfl rfl (Box.new w1 _ _) (by rw [mcs_length]; rfl) (infoMcs _ _) (mcs_one _ _) ?_; intro w2 hb2 hk2) | fail)
  have K2 := Lib.hid ((K1.out.alloc (.cells #[.int .u64 0, .int .u64 0, .int .u64 0, .int .u64 0, .int .u64 0, .int .u64 0, .int .u64 0, .int .u64 0, .int .u64 0, .int .u64 0, .int .u64 0, .int .u64 0, .int .u64 0, .int .u64 0, .int .u64 0, .int .u64 0, .int .i64 0] 27)).trans_new hk2 (fun k e => .inl (by have := K1.out.size; omega)))
  have M2 : Hid (Mp w2 w1.heap.size f n) := Lib.hid hb2
  obtain ⟨gm, hgm⟩ : ∃ gm, w1.heap.size = gm := ⟨_, rfl⟩
  rw [hgm] at M2
  have HG := Lib.hid hgm
  rw [HG.out]
  have kt := (HRd.out.kp K2.out (fun _ _ h => h)).text 39 9 5 c Tryd.underlying39 Tryd.underlying5 Tryd.underlying9
  rw [HL.out] at kt
  clear hb2 hk2 hgm
  go_wp2_with fail
  refine (HR.out w2).mono ?_
  rintro e w3 ⟨_, hx, k3⟩
  obtain ⟨gr, rfl, hm3, _⟩ := hx rfl
  have K3 := Lib.hid (K2.out.trans k3)
  have M3 := Lib.hid (M2.out.kp k3 (fun h => h))
  have R3 := Lib.hid hm3
  have HT3 := Lib.hid (HTb.out.kp K3.out (fun h => h))
  have hs := same_any gr n (bitsOf l n) w3 hm3 (by rw [bitsOf_length]; exact h1) (by rw [bitsOf_length]; exact h2) HT3.out
  rw [HF.out, bitsOf_length] at hs
  have HS := Lib.hid hs
  clear k3 kt hx hm3 hs
  go_upto_region 7 with fail
  refine wp_region_list ?_
  simp only []
  refine wpList_step (fun K hK => ?_)
  go_simp
  refine hK _ _ ?_
  clear hK K
  refine wpList_step (fun K hK => ?_)
  go_simp
  refine hK _ _ ?_
  clear hK K
  refine wpList_step (fun K hK => ?_)
  go_simp
  refine hK _ _ ?_
  clear hK K
  refine wpList_step (fun K hK => ?_)
  rw [if_pos (by rfl)]
  refine wp_load_mid 27 (.tmp 5) rfl (gm) 0 rfl (mcs f n) _ (Mp.range M3.out) Tryd.underlying27 rfl (infoMcs _ _) ?_
  refine hK _ _ ?_
  clear hK K
  refine wpList_step (fun K hK => ?_)
  go_simp
  refine hK _ _ ?_
  clear hK K
  refine wpList_step (fun K hK => ?_)
  go_simp
  refine (HS.out).mono ?_
  rintro e w4 ⟨rfl, k4⟩
  have K4 := Lib.hid (K3.out.trans k4)
  have HT4 := Lib.hid (HT3.out.kp k4 (fun h => h))
  clear k4
  go_simp
  refine hK _ _ ?_
  clear hK K
  refine wpList_step (fun K hK => ?_)
  go_simp
  refine hK _ _ ?_
  clear hK K
  refine wpList_step (fun K hK => ?_)
  go_simp
  refine hK _ _ ?_
  clear hK K
  refine wpList_step (fun K hK => ?_)
  go_simp
  refine (wakes_true w4 HT4.out).mono ?_
  rintro e w5 ⟨rfl, k5⟩
  have K5 := Lib.hid (K4.out.trans k5)
  clear k5
  go_simp
  refine hK _ _ ?_
  clear hK K
  refine wpList_step (fun K hK => ?_)
  go_simp
  refine hK _ _ ?_
  clear hK K
  refine wpList_step (fun K hK => ?_)
  go_simp
  refine hK _ _ ?_
  clear hK K
  refine wpList_nil ?_
  go_wp2_with fail
  go_ret
  exact ⟨rfl, K5.out⟩
theorem takes_walk (A : Option Addr) (l : List UInt8) (c : Nat) (i : Int) (w : World) (hl : l.length ≤ c) (hm : c ≤ maxLen) (hr : Rd w A l) (tb : Tbl w) :
    Calls Tryd.prog 4 #[.slice A l.length c, .int .i64 i] w fun e w' => e = .returned (.bool true) ∧ Kp (fun _ => False) w w' := by
  by_cases h6 : 600 < l.length
  · exact takes_long A l c i w h6 (Nat.le_trans hl hm) tb
  · have hq : ∀ (W : World) (r : Value) (er : Int), (fun (e : Ending) (w' : World) => e = .returned (.tuple #[r, .int .i64 er]) ∧ W = w') = fun e w' => e = .returned (.tuple #[r, .int .i64 er]) ∧ W = w' := fun _ _ _ => rfl
    by_cases hi : 1 ≤ i ∧ i ≤ 1024
    · obtain ⟨n, rfl⟩ := Int.eq_ofNat_of_zero_le (show 0 ≤ i by omega)
      have h1 : 1 ≤ n := by omega
      have h2 : n ≤ 1024 := by omega
      have e1 : (ByteArray.mk l.toArray).data.toList = l := rfl
      have e2 : (ByteArray.mk l.toArray).size = l.length := List.size_toArray
      by_cases hs : l.length = 512
      · rcases hr with rfl | ⟨b, o, rfl, hcn⟩
        · cases hs
        · obtain ⟨jb, hj1, hj2, hj3, hj4⟩ := first_bad l n hs
          by_cases hj : jb < 4096
          · refine takes_bad (some ⟨b, o, none⟩) l c n 3 w (by omega) (.inr ⟨b, o, rfl, hcn⟩) tb rfl (by rw [hs]; exact take_bit b o c l n w h1 h2 hs jb (hj3 hj).1 (hj3 hj).2 hcn) fun W => ?_
            have h9 := rtake_page ⟨l.toArray⟩ n jb W h1 h2 (by rw [e2, hs]) hj1
            rw [e1] at h9
            exact (h9 hj2 hj3).mono fun e w' h => ⟨h.1 hj, h.2.2⟩
          · rw [hs]
            exact takes_ok b o c l n w hs h1 h2 (hj4 (by omega)) hcn tb
      · refine takes_bad A l c n 3 w (by omega) hr tb rfl (take_short A l.length c n w h1 h2 hs) fun W => ?_
        exact (rtake_short ⟨l.toArray⟩ n W h1 h2 (by rw [e2]; exact hs) (by rw [e2]; omega)).mono fun e w' h => ⟨h.1, by rw [← h.2]; exact Kp.refl _ _⟩
    · exact takes_bad A l c i 2 w (by omega) hr tb rfl (take_arg A l.length c i w hi) fun W => (rtake_arg ⟨l.toArray⟩ i W hi).mono fun e w' h => ⟨h.1, by rw [← h.2]; exact Kp.refl _ _⟩
end Go.Proofs.YtlhfdoaknfgemaaDoor
