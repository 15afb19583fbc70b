/- A chunk's height and size. Conditions: at most 1000 children (of the size). -/
import Derived.Test.YtoonihhjdmkflaaChMem
import Derived.Test.YtoonihhjdmkflaaBlk
namespace Go.Proofs.Ytoonihhjdmkflaa
open Go.RowKit

theorem zKid : ZeroN Try.prog 46 36 := by unfold ZeroN; kernel_rfl
theorem zCk : ZeroN Try.prog 25 3 := by unfold ZeroN; kernel_rfl
def GreatEnd (w : World) (e : Ending) (w' : World) : Prop := ∃ g, w.heap.size ≤ g ∧ e = .returned (.func (Fn.func 48) #[] #[.pointer (some ⟨g, 0, none⟩)]) ∧ Box w' g 3 #[.int .i64 0] ∧ Kp (fun _ => False) w w'
set_option maxHeartbeats 400000 in
theorem greatest_any (w : World) : Calls Try.prog 30 #[] w (GreatEnd w) := by
  go_enter Try.func30, Try.ntmps30
  go_wp2
  go_ret
  exact ⟨w.heap.size, Nat.le_refl _, rfl, Box.new w _ _, (Kp.refl _ w).alloc _⟩
set_option maxHeartbeats 400000 in
theorem great1_any (g m n : Nat) (w : World) (hb : Box w g 3 #[.int .i64 m]) (_hm : m < 256) (_hn : n < 256) :
    Calls Try.prog 48 #[.int .i64 n, .pointer (some ⟨g, 0, none⟩)] w fun e w' => e = .returned (.int .i64 (max m n : Nat)) ∧ w.setCell ⟨g, 0, none⟩ (.int .i64 (max m n : Nat)) = w' := by
  have y0 := hb.cell 0
  have f0 := hb.free 0
  simp at y0
  obtain ⟨x, hx⟩ : ∃ x, x = max m n := ⟨_, rfl⟩
  have e1 : (if (m : Int) < (n : Int) then (n : Int) else (m : Int)) = (x : Int) := by rw [hx]; split <;> omega
  have e2 : (if m < n then (n : Int) else (m : Int)) = (x : Int) := by rw [hx]; split <;> omega
  rw [← hx]
  clear hb hx
  go_enter Try.func48, Try.ntmps48
  go_wp2
  go_ret
  exact ⟨rfl, rfl⟩
set_option maxRecDepth 100000 in
set_option maxHeartbeats 2000000 in
theorem height_any (c : Ck) (A : Option Addr) (n : Nat) (w : World) (h : CkR w c A n) :
    Calls Try.prog 12 #[.agg (ccs c A n)] w fun e w' => e = .returned (.int .i64 (heightN c)) ∧ Kp (fun _ => False) w w' := by
  obtain ⟨W, hW, b0, k0⟩ : ∃ W, W = w.alloc (.cells (ccs c A n) 25) ∧ Box W w.heap.size 25 (ccs c A n) ∧ Kp (fun _ => False) w W := ⟨_, rfl, Box.new w _ _, (Kp.refl _ w).alloc _⟩
  have HW := Lib.hid hW
  have K0 := Lib.hid k0
  have B0 := Lib.hid b0
  have HR := Lib.hid (h.still k0)
  have hlen : c.kids.length ≤ maxLen := Nat.le_trans h.le h.mx
  unfold maxLen at hlen
  clear hW b0 k0 h
  rcases hl : ldB c.kind with _ | _
  · have HH : Hid (heightN c = 0) := Lib.hid (by unfold heightN; rw [hl]; rfl)
    have HL := Lib.hid hl
    clear hl
    go_enter Try.func12, Try.ntmps12
    go_upto_region 1 with fail
    rw [← HW.out]
    go_wp2_with (first | (refine wpList_load_mid rfl 25 (.tmp 1) rfl w.heap.size 0 rfl (ccs c A n).toList _ B0.out.range Try.underlying25 rfl (by kernel_rfl) ?_) | fail)
    refine (leads_any c A n _).mono ?_
    rintro e w1 ⟨rfl, k1⟩
    have K1 := Lib.hid k1
    clear k1
    rw [HL.out]
    go_wp2_with fail
    go_ret
    rw [HH.out]
    exact ⟨rfl, K0.out.trans K1.out⟩
  · have HH : Hid (heightN c = hiN 0 c.kids + 1) := Lib.hid (by unfold heightN; rw [hl]; rfl)
    have HL := Lib.hid hl
    clear hl
    go_enter Try.func12, Try.ntmps12
    go_upto_region 1 with fail
    rw [← HW.out]
    go_wp2_with (first | (refine wpList_load_mid rfl 25 (.tmp 1) rfl w.heap.size 0 rfl (ccs c A n).toList _ B0.out.range Try.underlying25 rfl (by kernel_rfl) ?_) | fail)
    refine (leads_any c A n _).mono ?_
    rintro e w1 ⟨rfl, k1⟩
    have B1 := Lib.hid (B0.out.kp k1 (fun h => h))
    have K1 := Lib.hid (K0.out.trans k1)
    have R1 := Lib.hid (HR.out.still k1)
    clear k1
    rw [HL.out]
    go_wp2_with fail
    refine (greatest_any _).mono ?_
    rintro e w2 ⟨g, hg, rfl, hbg, k2⟩
    have hgw : w.heap.size < g := by have := B1.out.lt; omega
    have G2 := Lib.hid hbg
    have B2 := Lib.hid (B1.out.kp k2 (fun h => h))
    have K2 := Lib.hid (K1.out.trans k2)
    have R2 := Lib.hid (R1.out.still k2)
    have y2 : w2.cell? ⟨w.heap.size, 2, none⟩ = some (.slice A c.kids.length n) := B2.out.cell 2
    have HG := Lib.hid hgw
    clear k2 hbg hg hgw
    go_wp2_with fail
    clear y2
    go_loopw [13] (fun s13 wr => ∃ k : Nat, k ≤ c.kids.length ∧ s13 = .int .i64 k ∧ Box wr g 3 #[.int .i64 (hiN 0 (c.kids.take k))] ∧ KsR wr A c.kids ∧ Kp (fun _ => False) w wr) (fun s13 _ => c.kids.length - (Go.RowKit.intOf s13).toNat)
    case atStart => exact ⟨0, Nat.zero_le _, rfl, by simpa [hiN] using G2.out, R2.out.k, K2.out⟩
    case round =>
      obtain ⟨k, hk, rfl, hbx, hks, hkp⟩ := hrel
      have GX := Lib.hid hbx
      have KS := Lib.hid hks
      have KP := Lib.hid hkp
      have hlt256 : hiN 0 (c.kids.take k) < 256 := hiN_lt _ _ (by decide) fun x hx => (R2.out.ok.2 x (List.mem_of_mem_take hx)).2.1
      obtain ⟨m, hm⟩ : ∃ m, m = hiN 0 (c.kids.take k) := ⟨_, rfl⟩
      rw [← hm] at GX hlt256
      have HM := Lib.hid hm
      clear hbx hks hkp hm
      by_cases hlt : k < c.kids.length
      · obtain ⟨x, hx⟩ : ∃ x, c.kids[k]? = some x := ⟨_, List.getElem?_eq_getElem hlt⟩
        obtain ⟨b, o, hA, hrg⟩ := KS.out.at hx
        have xok : x.Ok := R2.out.ok.2 x (List.mem_of_getElem? hx)
        have XO := Lib.hid xok
        have hx2 := xok.2.1
        obtain ⟨p, hp⟩ : ∃ p, o + k * 36 = p := ⟨_, rfl⟩
        rw [show o + 36 * k = p by omega] at hrg
        have RG := Lib.hid hrg
        have HX := Lib.hid hx
        have HN : Hid (hiN 0 (c.kids.take (k + 1)) = max m x.ht) := Lib.hid (by
          rw [HM.out]
          have : c.kids.take (k + 1) = c.kids.take k ++ [x] := by
            rw [take_snoc _ _ hlt]
            have := HX.out
            rw [List.getElem?_eq_getElem hlt] at this
            cases this
            rfl
          rw [this, hiN_snoc])
        clear hrg hx xok
        rw [hA]
        go_wp2_with (first | (refine wpList_load_mid rfl 46 (.tmp 15) rfl b p rfl (kcs x) _ RG.out Try.underlying46 rfl (by rw [kcs_len XO.out]; kernel_rfl) ?_) | (refine wpList_new rfl rfl 46 rfl (.tmp 5) (.tmp 16) rfl zKid (kcs x) (kcs_len XO.out) (fun _ => rfl) (fun _ => rfl) (kcs_one x) ?_; intro w3 g3 hg3 hb3 hk3; have y3 : w3.cell? ⟨g3, 34, none⟩ = some (.int .u8 x.ht) := (kid_cells hb3.range' XO.out).2.2.1; have HK3 := Lib.hid hk3; have HG3 := Lib.hid hg3; have HB3 := Lib.hid hb3; clear hk3 hg3 hb3) | fail)
        have G4 := GX.out.kp HK3.out (fun h => h)
        refine (great1_any g m x.ht _ G4 hlt256 hx2).mono ?_
        rintro e w4 ⟨rfl, rfl⟩
        have G5 : Hid (Box (w3.setCell ⟨g, 0, none⟩ (.int .i64 (max m x.ht : Nat))) g 3 #[.int .i64 (max m x.ht : Nat)]) := Lib.hid (by simpa using G4.put 0 (.int .i64 (max m x.ht : Nat)))
        have K5 : Hid (Kp (fun _ => False) w (w3.setCell ⟨g, 0, none⟩ (.int .i64 (max m x.ht : Nat)))) := Lib.hid ((KP.out.trans HK3.out).setCell (.inl (by have := HG.out; show _ ≤ g; omega)) _)
        have R5 : Hid (KsR (w3.setCell ⟨g, 0, none⟩ (.int .i64 (max m x.ht : Nat))) (some ⟨b, o, none⟩) c.kids) := Lib.hid (by
          have := KS.out
          rw [hA] at this
          exact (this.still HK3.out).far (Kp.one _ _ _ _) G4 (fun s d i h => by rcases i with _ | i <;> simp at h))
        clear G4 y3
        go_wp2_with fail
        go_roundw
        case rel => exact ⟨k + 1, by omega, by go_num, by rw [HN.out]; exact G5.out, R5.out, K5.out⟩
        case measure => simp [Go.RowKit.intOf]; omega
      · obtain rfl : k = c.kids.length := by omega
        rw [List.take_length] at HM
        clear hlt hk
        go_wp2_with fail
        refine (great1_any g m 0 _ GX.out hlt256 (by decide)).mono ?_
        rintro e w4 ⟨rfl, rfl⟩
        have K5 : Hid (Kp (fun _ => False) w (wr.setCell ⟨g, 0, none⟩ (.int .i64 (max m 0 : Nat)))) := Lib.hid (KP.out.setCell (.inl (by have := HG.out; show _ ≤ g; omega)) _)
        have hm0 : max m 0 = m := by omega
        rw [hm0] at K5 ⊢
        clear hm0
        go_wp2_with fail
        go_ret
        rw [HH.out, ← HM.out]
        exact ⟨rfl, K5.out⟩
theorem smN_take (l : List Kd) (k : Nat) (x : Kd) (h : l[k]? = some x) : smN (l.take (k + 1)) = smN (l.take k) + x.sz := by
  have hl : k < l.length := (List.getElem?_eq_some_iff.1 h).1
  have : l.take (k + 1) = l.take k ++ [x] := by
    rw [take_snoc _ _ hl]
    rw [List.getElem?_eq_getElem hl] at h
    cases h
    rfl
  rw [this]
  simp [smN]
theorem smN_le : ∀ (l : List Kd), (∀ k ∈ l, k.Ok) → smN l ≤ 4294967296 * l.length
  | [], _ => by simp [smN]
  | k :: r, h => by
    have h1 := smN_le r fun x hx => h x (List.mem_cons_of_mem _ hx)
    have h2 := (h k List.mem_cons_self).2.2
    simp only [smN, List.map_cons, List.sum_cons, List.length_cons] at h1 ⊢
    omega
set_option maxRecDepth 100000 in
set_option maxHeartbeats 2000000 in
theorem size_any (c : Ck) (A : Option Addr) (n : Nat) (w : World) (h : CkR w c A n) (h1000 : c.kids.length ≤ 1000) (hd : c.data.size ≤ 140737488355328) :
    Calls Try.prog 13 #[.agg (ccs c A n)] w fun e w' => e = .returned (.int .u64 (sizeN c)) ∧ Kp (fun _ => False) w w' := by
  obtain ⟨W, hW, b0, k0⟩ : ∃ W, W = w.alloc (.cells (ccs c A n) 25) ∧ Box W w.heap.size 25 (ccs c A n) ∧ Kp (fun _ => False) w W := ⟨_, rfl, Box.new w _ _, (Kp.refl _ w).alloc _⟩
  have HW := Lib.hid hW
  have K0 := Lib.hid k0
  have B0 := Lib.hid b0
  have HR := Lib.hid (h.still k0)
  clear hW b0 k0 h
  rcases hl : ldB c.kind with _ | _
  · have HH : Hid (sizeN c = c.data.size) := Lib.hid (by unfold sizeN; rw [hl]; rfl)
    have HL := Lib.hid hl
    clear hl
    go_enter Try.func13, Try.ntmps13
    go_upto_region 1 with fail
    rw [← HW.out]
    go_wp2_with (first | (refine wpList_load_mid rfl 25 (.tmp 1) rfl w.heap.size 0 rfl (ccs c A n).toList _ B0.out.range Try.underlying25 rfl (by kernel_rfl) ?_) | fail)
    refine (leads_any c A n _).mono ?_
    rintro e w1 ⟨rfl, k1⟩
    have K1 := Lib.hid k1
    have y1 : w1.cell? ⟨w.heap.size, 1, none⟩ = some (.string c.data) := (B0.out.kp k1 (fun h => h)).cell 1
    clear k1
    rw [HL.out]
    go_wp2_with fail
    go_ret
    rw [HH.out]
    exact ⟨rfl, K0.out.trans K1.out⟩
  · by_cases h2 : c.kind = 2
    · have HH : Hid (sizeN c = smN c.kids) := Lib.hid (by unfold sizeN; rw [hl, if_pos rfl, if_pos h2])
      have d2 : ((c.kind : Int) == 2) = true := by simp; omega
      have HL := Lib.hid hl
      have HSM := Lib.hid (smN_le c.kids HR.out.ok.2)
      clear hl h2
      go_enter Try.func13, Try.ntmps13
      go_upto_region 1 with fail
      rw [← HW.out]
      go_wp2_with (first | (refine wpList_load_mid rfl 25 (.tmp 1) rfl w.heap.size 0 rfl (ccs c A n).toList _ B0.out.range Try.underlying25 rfl (by kernel_rfl) ?_) | fail)
      refine (leads_any c A n _).mono ?_
      rintro e w1 ⟨rfl, k1⟩
      have B1 := Lib.hid (B0.out.kp k1 (fun h => h))
      have K1 := Lib.hid (K0.out.trans k1)
      have R1 := Lib.hid (HR.out.still k1)
      have y0 : w1.cell? ⟨w.heap.size, 0, none⟩ = some (.int .u8 c.kind) := B1.out.cell 0
      have y2 : w1.cell? ⟨w.heap.size, 2, none⟩ = some (.slice A c.kids.length n) := B1.out.cell 2
      clear k1
      rw [HL.out]
      go_wp2_with fail
      clear y0 y2 d2
      go_loopw [3, 19] (fun s3 s19 wr => ∃ k : Nat, k ≤ c.kids.length ∧ s19 = .int .i64 k ∧ s3 = .int .u64 (smN (c.kids.take k) : Nat) ∧ Kp (fun _ => False) w1 wr) (fun _ s19 _ => c.kids.length - (Go.RowKit.intOf s19).toNat)
      case atStart => exact ⟨0, Nat.zero_le _, rfl, rfl, Kp.refl _ _⟩
      case round =>
        obtain ⟨k, hk, rfl, rfl, hkp⟩ := hrel
        have KP := Lib.hid hkp
        clear hkp
        have hsm := smN_le (c.kids.take k) fun x hx => R1.out.ok.2 x (List.mem_of_mem_take hx)
        rw [List.length_take] at hsm
        obtain ⟨m, hm⟩ : ∃ m, m = smN (c.kids.take k) := ⟨_, rfl⟩
        rw [← hm] at hsm ⊢
        have HM := Lib.hid hm
        have hmb : m ≤ 4294967296000 := by omega
        clear hm hsm
        by_cases hlt : k < c.kids.length
        · obtain ⟨x, hx⟩ : ∃ x, c.kids[k]? = some x := ⟨_, List.getElem?_eq_getElem hlt⟩
          obtain ⟨b, o, hA, hrg⟩ := (R1.out.k.still KP.out).at hx
          have xok : x.Ok := R1.out.ok.2 x (List.mem_of_getElem? hx)
          have XO := Lib.hid xok
          have hx2 := xok.2.2
          obtain ⟨p, hp⟩ : ∃ p, o + k * 36 = p := ⟨_, rfl⟩
          rw [show o + 36 * k = p by omega] at hrg
          have RG := Lib.hid hrg
          have HN := Lib.hid (smN_take _ _ _ hx)
          clear hrg hx xok
          rw [hA]
          go_wp2_with (first | (refine wpList_load_mid rfl 46 (.tmp 21) rfl b p rfl (kcs x) _ RG.out Try.underlying46 rfl (by rw [kcs_len XO.out]; kernel_rfl) ?_) | (refine wpList_new rfl rfl 46 rfl (.tmp 5) (.tmp 22) rfl zKid (kcs x) (kcs_len XO.out) (fun _ => rfl) (fun _ => rfl) (kcs_one x) ?_; intro w3 g3 hg3 hb3 hk3; have y3 : w3.cell? ⟨g3, 35, none⟩ = some (.int .u32 x.sz) := (kid_cells hb3.range' XO.out).2.2.2.1; have HK3 := Lib.hid hk3; clear hk3 hg3 hb3) | fail)
          go_roundw
          case rel => exact ⟨k + 1, by omega, by go_num, by rw [HN.out, ← HM.out]; go_num, KP.out.trans HK3.out⟩
          case measure => simp [Go.RowKit.intOf]; omega
        · obtain rfl : k = c.kids.length := by omega
          rw [List.take_length] at HM
          clear hlt hk
          go_wp2_with fail
          go_ret
          rw [HH.out, ← HM.out]
          exact ⟨rfl, K1.out.trans KP.out⟩
    · have HH : Hid (sizeN c = 0) := Lib.hid (by unfold sizeN; rw [hl, if_pos rfl, if_neg h2])
      have d2 : ((c.kind : Int) == 2) = false := by simp; omega
      have HL := Lib.hid hl
      clear hl h2
      go_enter Try.func13, Try.ntmps13
      go_upto_region 1 with fail
      rw [← HW.out]
      go_wp2_with (first | (refine wpList_load_mid rfl 25 (.tmp 1) rfl w.heap.size 0 rfl (ccs c A n).toList _ B0.out.range Try.underlying25 rfl (by kernel_rfl) ?_) | fail)
      refine (leads_any c A n _).mono ?_
      rintro e w1 ⟨rfl, k1⟩
      have K1 := Lib.hid (K0.out.trans k1)
      have y0 : w1.cell? ⟨w.heap.size, 0, none⟩ = some (.int .u8 c.kind) := (B0.out.kp k1 (fun h => h)).cell 0
      clear k1
      rw [HL.out]
      go_wp2_with fail
      go_ret
      rw [HH.out]
      exact ⟨rfl, K1.out⟩
end Go.Proofs.Ytoonihhjdmkflaa
