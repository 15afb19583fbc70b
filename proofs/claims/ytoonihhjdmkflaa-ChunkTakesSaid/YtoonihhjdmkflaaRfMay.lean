/- Whether a chunk may be, in the document's own words. Condition: at most 1000 children. -/
import Derived.Test.YtoonihhjdmkflaaRfHt
import Derived.Test.YtoonihhjdmkflaaChOf
namespace Go.Proofs.Ytoonihhjdmkflaa
open Go.RowKit

theorem bl_total : ∀ x y : List UInt8, (Go.Op.bytesLess y x || (y == x)) = !Go.Op.bytesLess x y
  | [], [] => rfl
  | [], _ :: _ => rfl
  | _ :: _, [] => rfl
  | a :: x, b :: y => by
    have ih := bl_total x y
    simp only [Go.Op.bytesLess, List.cons_beq_cons]
    rcases Nat.lt_trichotomy a.toNat b.toNat with h | h | h
    · have h1 : decide (a < b) = true := by rw [decide_eq_true_eq, UInt8.lt_iff_toNat_lt]; exact h
      have h2 : decide (b < a) = false := by rw [decide_eq_false_iff_not, UInt8.lt_iff_toNat_lt]; omega
      have h3 : (b == a) = false := by rw [beq_eq_false_iff_ne]; rintro rfl; omega
      rw [h1, h2, h3]
      rfl
    · obtain rfl : a = b := UInt8.toNat_inj.1 h
      have h1 : decide (a < a) = false := by rw [decide_eq_false_iff_not, UInt8.lt_iff_toNat_lt]; omega
      rw [h1, beq_self_eq_true]
      simpa using ih
    · have h1 : decide (a < b) = false := by rw [decide_eq_false_iff_not, UInt8.lt_iff_toNat_lt]; omega
      have h2 : decide (b < a) = true := by rw [decide_eq_true_eq, UInt8.lt_iff_toNat_lt]; exact h
      have h3 : (a == b) = false := by rw [beq_eq_false_iff_ne]; rintro rfl; omega
      rw [h1, h2, h3]
      rfl
theorem ble_not (a b : ByteArray) : ble b a = !bls a b := bl_total a.toList b.toList
theorem ble_empty (x : ByteArray) : ble x ⟨#[]⟩ = decide (x.size < 1) := by
  unfold ble bls
  have e : (⟨#[]⟩ : ByteArray).toList = [] := by rw [toList_byt]; rfl
  have h1 : Go.Op.bytesLess x.toList [] = false := by cases x.toList <;> rfl
  rw [e, h1, Bool.false_or, toList_byt]
  have h2 := byt_len x
  cases hb : byt x with
  | nil => rw [hb] at h2; rw [decide_eq_true (by simp at h2; omega)]; rfl
  | cons a r => rw [hb] at h2; rw [decide_eq_false (by simp at h2; omega)]; rfl
theorem empty_iff (x : ByteArray) : x = ⟨#[]⟩ ↔ x.size < 1 := by
  constructor
  · rintro rfl; decide
  · intro h
    apply ByteArray.ext
    exact Array.eq_empty_of_size_eq_zero (by show x.size = 0; omega)
/-- The document's words for one name. -/
theorem rise_doc {l : List Kd} {k : Nat} {x : Kd} (hx : l[k]? = some x) : rise1 (prevN ⟨#[]⟩ l k) x = !(decide (x.name.size < 1) || decide (16 < x.name.size) || (decide (0 < k) && !bls (prevN ⟨#[]⟩ l k) x.name)) := by
  unfold rise1
  rcases k with _ | k
  · rw [prevN, ble_empty]
    simp
  · rw [ble_not]
    by_cases h1 : x.name.size < 1
    · have e := (empty_iff x.name).2 h1
      have : bls (prevN ⟨#[]⟩ l (k + 1)) x.name = false := by
        rw [e]
        unfold bls
        have : (⟨#[]⟩ : ByteArray).toList = [] := by rw [toList_byt]; rfl
        rw [this]
        cases (prevN ⟨#[]⟩ l (k + 1)).toList <;> rfl
      rw [this, decide_eq_true h1]
      simp
    · rw [decide_eq_false h1]
      simp [Bool.or_comm]
theorem lead_high {c : Ck} (h : 255 < heightN c) : leadB c = false := by unfold leadB; rw [decide_eq_false (show ¬ heightN c ≤ 255 by omega), Bool.and_false]
theorem lead_many {c : Ck} (h : 6 < c.kids.length) : leadB c = false := by unfold leadB; rw [decide_eq_false (show ¬ c.kids.length ≤ 6 by omega), Bool.and_false, Bool.false_and]
theorem lead_data {c : Ck} (h : c.data ≠ ⟨#[]⟩) : leadB c = false := by unfold leadB; rw [decide_eq_false (fun e => h ((empty_iff _).2 (by omega))), Bool.false_and, Bool.false_and]
theorem lead_yes {c : Ck} (h1 : ¬ 255 < heightN c) (h2 : ¬ 6 < c.kids.length) (h3 : c.data = ⟨#[]⟩) : leadB c = true := by
  unfold leadB
  rw [decide_eq_true (show c.data.size = 0 by rw [h3]; rfl), decide_eq_true (show c.kids.length ≤ 6 by omega), decide_eq_true (show heightN c ≤ 255 by omega)]
  rfl
theorem h_blob {c : Ck} (h : c.kind = 1) : heightN c = 0 := by unfold heightN ldB; rw [h]; rfl

set_option maxRecDepth 100000 in
set_option maxHeartbeats 8000000 in
theorem rmay0 (c : Ck) (A : Option Addr) (n : Nat) (w : World) (h : CkR w c A n) (_h1000 : c.kids.length ≤ 1000) (hkd : c.kind = 0 ∨ 3 < c.kind) :
    Calls Try.prog 20 #[.agg (ccs c A n)] w fun e w' => e = .returned (.bool (mayB c)) ∧ Kp (fun _ => False) w w' := by
  obtain ⟨W, hW, b0, k0⟩ : ∃ W, W = w.alloc (.cells (ccs c A n) 32) ∧ Box W w.heap.size 32 (ccs c A n) ∧ Kp (fun _ => False) w W := ⟨_, rfl, Box.new w _ _, (Kp.refl _ w).alloc _⟩
  have HW := Lib.hid hW
  have K0 := Lib.hid k0
  have HF : Hid (∀ v, Kp (fun _ => False) W v → CkR v c A n ∧ v.cell? ⟨w.heap.size, 0, none⟩ = some (.int .u8 c.kind) ∧ v.cell? ⟨w.heap.size, 1, none⟩ = some (.string c.data) ∧ v.cell? ⟨w.heap.size, 2, none⟩ = some (.slice A c.kids.length n)) := Lib.hid fun v hv =>
    ⟨h.still (k0.trans hv), (b0.kp hv (fun h => h)).cell 0, (b0.kp hv (fun h => h)).cell 1, (b0.kp hv (fun h => h)).cell 2⟩
  clear hW b0 k0 h
  obtain ⟨_, y0, y1, y2⟩ := HF.out W (Kp.refl _ _)
  obtain ⟨hn, hhn⟩ : ∃ hn, hn = heightN c := ⟨_, rfl⟩
  have HHN := Lib.hid hhn
  have HM := Lib.hid (may_none (c := c) (by omega) (by omega) (by omega))
  clear hhn
  rcases hkd with hkd | hkd
  · have d1 : (c.kind : Int) < 1 := by omega
    clear hkd
    go_enter Try.func20, Try.ntmps20
    go_upto_region 1 with fail
    rw [← HW.out]
    go_wp2_with fail
    go_ret
    rw [HM.out]
    exact ⟨rfl, K0.out⟩
  · have d1 : ¬ (c.kind : Int) < 1 := by omega
    have d3 : (3 : Int) < c.kind := by omega
    clear hkd
    go_enter Try.func20, Try.ntmps20
    go_upto_region 1 with fail
    rw [← HW.out]
    go_wp2_with fail
    go_ret
    rw [HM.out]
    exact ⟨rfl, K0.out⟩
set_option maxRecDepth 100000 in
set_option maxHeartbeats 8000000 in
theorem rmay1 (c : Ck) (A : Option Addr) (n : Nat) (w : World) (h : CkR w c A n) (h1000 : c.kids.length ≤ 1000) (hkd : c.kind = 1) :
    Calls Try.prog 20 #[.agg (ccs c A n)] w fun e w' => e = .returned (.bool (mayB c)) ∧ Kp (fun _ => False) w w' := by
  obtain ⟨W, hW, b0, k0⟩ : ∃ W, W = w.alloc (.cells (ccs c A n) 32) ∧ Box W w.heap.size 32 (ccs c A n) ∧ Kp (fun _ => False) w W := ⟨_, rfl, Box.new w _ _, (Kp.refl _ w).alloc _⟩
  have HW := Lib.hid hW
  have K0 := Lib.hid k0
  have HF : Hid (∀ v, Kp (fun _ => False) W v → CkR v c A n ∧ v.cell? ⟨w.heap.size, 0, none⟩ = some (.int .u8 c.kind) ∧ v.cell? ⟨w.heap.size, 1, none⟩ = some (.string c.data) ∧ v.cell? ⟨w.heap.size, 2, none⟩ = some (.slice A c.kids.length n)) := Lib.hid fun v hv =>
    ⟨h.still (k0.trans hv), (b0.kp hv (fun h => h)).cell 0, (b0.kp hv (fun h => h)).cell 1, (b0.kp hv (fun h => h)).cell 2⟩
  clear hW b0 k0 h
  obtain ⟨_, y0, y1, y2⟩ := HF.out W (Kp.refl _ _)
  obtain ⟨hn, hhn⟩ : ∃ hn, hn = heightN c := ⟨_, rfl⟩
  have HHN := Lib.hid hhn
  have HMB := Lib.hid (may_blob hkd)
  have h0 : hn = 0 := by rw [hhn, h_blob hkd]
  have d1 : ¬ (c.kind : Int) < 1 := by omega
  have d3 : ¬ (3 : Int) < c.kind := by omega
  have de : ((c.kind : Int) == 1) = true := by simp; omega
  have d255 : ¬ (255 : Int) < hn := by omega
  clear hhn h0 hkd
  by_cases h6 : (6 : Int) < c.kids.length
  · have HM : Hid (mayB c = false) := Lib.hid (by rw [HMB.out]; have : ((c.kids.length : Int) == 0) = false := beq_eq_false_iff_ne.2 (by omega); rw [this]; rfl)
    go_enter Try.func20, Try.ntmps20
    go_upto_region 1 with fail
    rw [← HW.out]
    go_wp2_with fail
    refine (rheight_any c A n _ (HF.out W (Kp.refl _ _)).1).mono ?_
    rintro e w1 ⟨rfl, k1⟩
    rw [← HHN.out]
    have K1 := Lib.hid k1
    clear k1 y0 y1 y2
    obtain ⟨_, y0, y1, y2⟩ := HF.out w1 K1.out
    go_wp2_with fail
    go_ret
    rw [HM.out]
    exact ⟨rfl, K0.out.trans K1.out⟩
  · rcases h0 : ((c.kids.length : Int) == 0) with _ | _
    · have HM : Hid (mayB c = false) := Lib.hid (by rw [HMB.out, h0]; rfl)
      go_enter Try.func20, Try.ntmps20
      go_upto_region 1 with fail
      rw [← HW.out]
      go_wp2_with fail
      refine (rheight_any c A n _ (HF.out W (Kp.refl _ _)).1).mono ?_
      rintro e w1 ⟨rfl, k1⟩
      rw [← HHN.out]
      have K1 := Lib.hid k1
      clear k1 y0 y1 y2
      obtain ⟨_, y0, y1, y2⟩ := HF.out w1 K1.out
      go_wp2_with fail
      go_ret
      rw [HM.out]
      exact ⟨rfl, K0.out.trans K1.out⟩
    · have HM : Hid (mayB c = decide ((c.data.size : Int) ≤ 240)) := Lib.hid (by rw [HMB.out, h0]; rfl)
      go_enter Try.func20, Try.ntmps20
      go_upto_region 1 with fail
      rw [← HW.out]
      go_wp2_with fail
      refine (rheight_any c A n _ (HF.out W (Kp.refl _ _)).1).mono ?_
      rintro e w1 ⟨rfl, k1⟩
      rw [← HHN.out]
      have K1 := Lib.hid k1
      clear k1 y0 y1 y2
      obtain ⟨_, y0, y1, y2⟩ := HF.out w1 K1.out
      go_wp2_with fail
      go_ret
      rw [HM.out]
      exact ⟨rfl, K0.out.trans K1.out⟩
set_option maxRecDepth 100000 in
set_option maxHeartbeats 8000000 in
theorem rmay2 (c : Ck) (A : Option Addr) (n : Nat) (w : World) (h : CkR w c A n) (h1000 : c.kids.length ≤ 1000) (hkd : c.kind = 2) :
    Calls Try.prog 20 #[.agg (ccs c A n)] w fun e w' => e = .returned (.bool (mayB c)) ∧ Kp (fun _ => False) w w' := by
  obtain ⟨W, hW, b0, k0⟩ : ∃ W, W = w.alloc (.cells (ccs c A n) 32) ∧ Box W w.heap.size 32 (ccs c A n) ∧ Kp (fun _ => False) w W := ⟨_, rfl, Box.new w _ _, (Kp.refl _ w).alloc _⟩
  have HW := Lib.hid hW
  have K0 := Lib.hid k0
  have HF : Hid (∀ v, Kp (fun _ => False) W v → CkR v c A n ∧ v.cell? ⟨w.heap.size, 0, none⟩ = some (.int .u8 c.kind) ∧ v.cell? ⟨w.heap.size, 1, none⟩ = some (.string c.data) ∧ v.cell? ⟨w.heap.size, 2, none⟩ = some (.slice A c.kids.length n)) := Lib.hid fun v hv =>
    ⟨h.still (k0.trans hv), (b0.kp hv (fun h => h)).cell 0, (b0.kp hv (fun h => h)).cell 1, (b0.kp hv (fun h => h)).cell 2⟩
  clear hW b0 k0 h
  obtain ⟨_, y0, y1, y2⟩ := HF.out W (Kp.refl _ _)
  obtain ⟨hn, hhn⟩ : ∃ hn, hn = heightN c := ⟨_, rfl⟩
  have HHN := Lib.hid hhn
  have HMB := Lib.hid (may_index hkd)
  have d1 : ¬ (c.kind : Int) < 1 := by omega
  have d3 : ¬ (3 : Int) < c.kind := by omega
  have de : ((c.kind : Int) == 1) = false := by simp; omega
  have e2 : ((c.kind : Int) == 2) = true := by simp; omega
  have e3 : ((c.kind : Int) == 3) = false := by simp; omega
  have HKD := Lib.hid hkd
  by_cases d255 : (255 : Int) < hn
  · have HM : Hid (mayB c = false) := Lib.hid (by rw [HMB.out, lead_high (by omega)]; rfl)
    clear hhn hkd
    go_enter Try.func20, Try.ntmps20
    go_upto_region 1 with fail
    rw [← HW.out]
    go_wp2_with fail
    refine (rheight_any c A n _ (HF.out W (Kp.refl _ _)).1).mono ?_
    rintro e w1 ⟨rfl, k1⟩
    rw [← HHN.out]
    have K1 := Lib.hid k1
    clear k1 y0 y1 y2
    obtain ⟨_, y0, y1, y2⟩ := HF.out w1 K1.out
    go_wp2_with fail
    go_ret
    rw [HM.out]
    exact ⟨rfl, K0.out.trans K1.out⟩
  · have h255 : Hid (¬ 255 < heightN c) := Lib.hid (by omega)
    by_cases h6 : (6 : Int) < c.kids.length
    · have HM : Hid (mayB c = false) := Lib.hid (by rw [HMB.out, lead_many (by omega)]; rfl)
      clear hhn hkd
      go_enter Try.func20, Try.ntmps20
      go_upto_region 1 with fail
      rw [← HW.out]
      go_wp2_with fail
      refine (rheight_any c A n _ (HF.out W (Kp.refl _ _)).1).mono ?_
      rintro e w1 ⟨rfl, k1⟩
      rw [← HHN.out]
      have K1 := Lib.hid k1
      clear k1 y0 y1 y2
      obtain ⟨_, y0, y1, y2⟩ := HF.out w1 K1.out
      go_wp2_with fail
      go_ret
      rw [HM.out]
      exact ⟨rfl, K0.out.trans K1.out⟩
    · clear hhn hkd
      go_enter Try.func20, Try.ntmps20
      go_upto_region 1 with fail
      rw [← HW.out]
      go_wp2_with fail
      refine (rheight_any c A n _ (HF.out W (Kp.refl _ _)).1).mono ?_
      rintro e w1 ⟨rfl, k1⟩
      rw [← HHN.out]
      have K1 := Lib.hid k1
      clear k1 y0 y1 y2
      obtain ⟨_, y0, y1, y2⟩ := HF.out w1 K1.out
      go_upto_region 6 with fail
      clear y0 y1 y2
      go_loopw [3] (fun s3 wr => ∃ k : Nat, k ≤ c.kids.length ∧ s3 = .int .i64 k ∧ (∀ j x, j < k → c.kids[j]? = some x → entB x = false) ∧ Kp (fun _ => False) W wr) (fun s3 _ => c.kids.length - (Go.RowKit.intOf s3).toNat)
      case atStart => exact ⟨0, Nat.zero_le _, rfl, fun j x hj => by omega, K1.out⟩
      case round =>
        obtain ⟨k, hk, rfl, hall, hkp⟩ := hrel
        have HALL := Lib.hid hall
        have KP := Lib.hid hkp
        clear hall hkp
        obtain ⟨hck, y0, y1, y2⟩ := HF.out wr KP.out
        by_cases hlt : k < c.kids.length
        · obtain ⟨x, hx⟩ : ∃ x, c.kids[k]? = some x := ⟨_, List.getElem?_eq_getElem hlt⟩
          obtain ⟨b, o, hA, hrg⟩ := hck.k.at hx
          have XO := Lib.hid (hck.ok.2 x (List.mem_of_getElem? hx))
          have HXK := Lib.hid hx
          obtain ⟨p, hp⟩ : ∃ p, o + k * 36 = p := ⟨_, rfl⟩
          rw [show o + 36 * k = p by omega] at hrg
          have RG := Lib.hid hrg
          have HCK := Lib.hid hck
          have HA := Lib.hid hA
          rw [hA] at y2
          clear hrg hx hck hA
          go_upto_region 9 with (first | (refine wpList_load_mid rfl 58 (.tmp 47) rfl b p rfl (kcs x) _ RG.out Try.underlying58 rfl (by rw [kcs_len XO.out]; kernel_rfl) ?_) | (refine wpList_new rfl rfl 58 rfl (.tmp 4) (.tmp 48) rfl zRKid (kcs x) (kcs_len XO.out) (fun _ => rfl) (fun _ => rfl) (kcs_one x) ?_; intro w4 g4 hg4 hb4 hk4; have HB4 := Lib.hid hb4; have K4 := Lib.hid (KP.out.trans hk4); have HK4 := Lib.hid hk4; clear hk4 hg4 hb4) | fail)
          clear y0 y1 y2 hp
          have HX : Hid (∀ v, Kp (fun _ => False) w4 v → v.cell? ⟨g4, 0, none⟩ = some (.string x.name) ∧ v.cell? ⟨g4, 1, none⟩ = some (.bool x.dir)) := Lib.hid fun v hv => by
            obtain ⟨u0, u1, _⟩ := kid_cells (HB4.out.kp hv (fun e => e)).range' XO.out
            exact ⟨u0, u1⟩
          have HZ : Hid (∀ v, Kp (fun _ => False) w4 v → v.cell? ⟨w.heap.size, 0, none⟩ = some (.int .u8 c.kind) ∧ v.cell? ⟨w.heap.size, 2, none⟩ = some (.slice (some ⟨b, o, none⟩) c.kids.length n)) := Lib.hid fun v hv => by
            obtain ⟨_, u0, _, u2⟩ := HF.out v (K4.out.trans hv)
            rw [HA.out] at u2
            exact ⟨u0, u2⟩
          by_cases hne : x.name = ⟨#[]⟩
          · have hn1 := congrArg ByteArray.toList hne
            rw [show (⟨#[]⟩ : ByteArray).toList = [] from by rw [toList_byt]; rfl] at hn1
            rcases hdir : x.dir with _ | _
            · have HE : Hid (entB x = false) := Lib.hid (by unfold entB; rw [hne, hdir]; rfl)
              rw [hdir] at HX
              refine wp_region_quiet (C := fun v => Kp (fun _ => False) (w4) v) (by kernel_rfl) (by kernel_rfl) ((Kp.refl _ _).drew) (Wq.out ?_)
              refine qtk (h := ?_)
              refine qtk (hy := fun v hv => by (obtain ⟨y0, y2⟩ := HZ.out v hv; unfold Oper.quietAt; go_simp; with_reducible rfl)) (h := ?_)
              refine qtk (h := ?_)
              refine qtk (h := ?_)
              refine qtk (h := ?_)
              refine qtk (hy := fun v hv => by (obtain ⟨u0, u1⟩ := HX.out v hv; unfold Oper.quietAt; go_simp; with_reducible rfl)) (h := ?_)
              refine qtk (h := ?_)
              refine qtk (h := ?_)
              refine qtk (h := ?_)
              refine qtk (hy := fun v hv => by (obtain ⟨u0, u1⟩ := HX.out v hv; unfold Oper.quietAt; go_simp; with_reducible rfl)) (h := ?_)
              refine qtk (h := ?_)
              refine qtk (h := ?_)
              refine qtk (h := ?_)
              refine qtk (h := ?_)
              refine qtk (hy := fun v hv => by (obtain ⟨y0, y2⟩ := HZ.out v hv; unfold Oper.quietAt; go_simp; with_reducible rfl)) (h := ?_)
              refine qtk (h := ?_)
              refine qtk (h := ?_)
              refine qsk (h := ?_)
              refine qsk (h := ?_)
              refine qsk (h := ?_)
              refine qsk (h := ?_)
              refine qsk (h := ?_)
              refine qsk (h := ?_)
              refine qsk (h := ?_)
              refine qsk (h := ?_)
              refine qsk (h := ?_)
              refine qsk (h := ?_)
              refine qsk (h := ?_)
              refine qsk (h := ?_)
              refine qsk (h := ?_)
              refine qsk (h := ?_)
              refine qsk (h := ?_)
              refine qsk (h := ?_)
              refine qsk (h := ?_)
              refine qsk (h := ?_)
              refine qsk (h := ?_)
              refine qsk (h := ?_)
              refine qsk (h := ?_)
              refine qsk (h := ?_)
              refine qsk (h := ?_)
              refine qsk (h := ?_)
              refine qsk (h := ?_)
              refine qsk (h := ?_)
              refine qtk (h := ?_)
              refine qtk (h := ?_)
              refine Wq.mk (wpQuiet_nil ?_)
              intro w9 hw9
              have K9 := Lib.hid (K4.out.trans hw9)
              clear hw9
              clear hn1 hne hdir
              go_wp2_with fail
              go_roundw
              case rel =>
                refine ⟨k + 1, by omega, by go_num, fun j y hj hy => ?_, K9.out⟩
                rcases Nat.lt_or_ge j k with hjk | hjk
                · exact HALL.out j y hjk hy
                · obtain rfl : j = k := by omega
                  rw [HXK.out] at hy
                  cases hy
                  exact HE.out
              case measure => simp [Go.RowKit.intOf]; omega
            · have HM : Hid (mayB c = false) := Lib.hid (by rw [HMB.out, any_yes HXK.out (by unfold entB; rw [hdir]; simp)]; simp)
              rw [hdir] at HX
              refine wp_region_quiet (C := fun v => Kp (fun _ => False) (w4) v) (by kernel_rfl) (by kernel_rfl) ((Kp.refl _ _).drew) (Wq.out ?_)
              refine qtk (h := ?_)
              refine qtk (hy := fun v hv => by (obtain ⟨y0, y2⟩ := HZ.out v hv; unfold Oper.quietAt; go_simp; with_reducible rfl)) (h := ?_)
              refine qtk (h := ?_)
              refine qtk (h := ?_)
              refine qtk (h := ?_)
              refine qtk (hy := fun v hv => by (obtain ⟨u0, u1⟩ := HX.out v hv; unfold Oper.quietAt; go_simp; with_reducible rfl)) (h := ?_)
              refine qtk (h := ?_)
              refine qtk (h := ?_)
              refine qtk (h := ?_)
              refine qtk (hy := fun v hv => by (obtain ⟨u0, u1⟩ := HX.out v hv; unfold Oper.quietAt; go_simp; with_reducible rfl)) (h := ?_)
              refine qtk (h := ?_)
              refine qtk (h := ?_)
              refine qtk (h := ?_)
              refine qsk (h := ?_)
              refine qsk (h := ?_)
              refine qsk (h := ?_)
              refine qsk (h := ?_)
              refine qsk (h := ?_)
              refine qsk (h := ?_)
              refine qsk (h := ?_)
              refine qsk (h := ?_)
              refine qsk (h := ?_)
              refine qsk (h := ?_)
              refine qsk (h := ?_)
              refine qsk (h := ?_)
              refine qsk (h := ?_)
              refine qsk (h := ?_)
              refine qsk (h := ?_)
              refine qsk (h := ?_)
              refine qsk (h := ?_)
              refine qsk (h := ?_)
              refine qsk (h := ?_)
              refine qsk (h := ?_)
              refine qsk (h := ?_)
              refine qsk (h := ?_)
              refine qsk (h := ?_)
              refine qsk (h := ?_)
              refine qsk (h := ?_)
              refine qsk (h := ?_)
              refine qsk (h := ?_)
              refine qsk (h := ?_)
              refine qsk (h := ?_)
              refine qsk (h := ?_)
              refine qsk (h := ?_)
              refine qtk (h := ?_)
              refine Wq.mk (wpQuiet_nil ?_)
              intro w9 hw9
              have K9 := Lib.hid (K4.out.trans hw9)
              clear hw9
              go_wp2_with fail
              go_ret
              rw [HM.out]
              exact ⟨rfl, K0.out.trans K9.out⟩
          · have hn1 : ¬ x.name.toList = [] := fun e => hne (by rw [← mk_byt x.name, ← toList_byt, e])
            have hn2 : x.name.toList.isEmpty = false := by simpa using hn1
            have HM : Hid (mayB c = false) := Lib.hid (by rw [HMB.out, any_yes HXK.out (by unfold entB; rw [decide_eq_false hne]; rfl)]; simp)
            refine wp_region_quiet (C := fun v => Kp (fun _ => False) (w4) v) (by kernel_rfl) (by kernel_rfl) ((Kp.refl _ _).drew) (Wq.out ?_)
            refine qtk (h := ?_)
            refine qtk (hy := fun v hv => by (obtain ⟨y0, y2⟩ := HZ.out v hv; unfold Oper.quietAt; go_simp; with_reducible rfl)) (h := ?_)
            refine qtk (h := ?_)
            refine qtk (h := ?_)
            refine qtk (h := ?_)
            refine qtk (hy := fun v hv => by (obtain ⟨u0, u1⟩ := HX.out v hv; unfold Oper.quietAt; go_simp; with_reducible rfl)) (h := ?_)
            refine qtk (h := ?_)
            refine qtk (h := ?_)
            refine qsk (h := ?_)
            refine qsk (h := ?_)
            refine qtk (h := ?_)
            refine qtk (h := ?_)
            refine qtk (h := ?_)
            refine qsk (h := ?_)
            refine qsk (h := ?_)
            refine qsk (h := ?_)
            refine qsk (h := ?_)
            refine qsk (h := ?_)
            refine qsk (h := ?_)
            refine qsk (h := ?_)
            refine qsk (h := ?_)
            refine qsk (h := ?_)
            refine qsk (h := ?_)
            refine qsk (h := ?_)
            refine qsk (h := ?_)
            refine qsk (h := ?_)
            refine qsk (h := ?_)
            refine qsk (h := ?_)
            refine qsk (h := ?_)
            refine qsk (h := ?_)
            refine qsk (h := ?_)
            refine qsk (h := ?_)
            refine qsk (h := ?_)
            refine qsk (h := ?_)
            refine qsk (h := ?_)
            refine qsk (h := ?_)
            refine qsk (h := ?_)
            refine qsk (h := ?_)
            refine qsk (h := ?_)
            refine qsk (h := ?_)
            refine qsk (h := ?_)
            refine qsk (h := ?_)
            refine qsk (h := ?_)
            refine qsk (h := ?_)
            refine qtk (h := ?_)
            refine Wq.mk (wpQuiet_nil ?_)
            intro w9 hw9
            have K9 := Lib.hid (K4.out.trans hw9)
            clear hw9
            go_wp2_with fail
            go_ret
            rw [HM.out]
            exact ⟨rfl, K0.out.trans K9.out⟩
        · obtain rfl : k = c.kids.length := by omega
          clear hlt hk
          by_cases hd0 : c.data = ⟨#[]⟩
          · have HLD := Lib.hid (lead_yes h255.out (by omega) hd0)
            rw [hd0] at y1
            have HDD := Lib.hid hd0
            clear hd0
            have HAN : Hid (c.kids.any entB = false) := Lib.hid (by rw [List.any_eq_false]; intro x hx; obtain ⟨j, hj⟩ := List.getElem?_of_mem hx; rw [HALL.out j x (List.getElem?_eq_some_iff.1 hj).1 hj]; exact Bool.false_ne_true)
            by_cases hz : 0 < c.kids.length
            · have hz1 : (0 : Int) < c.kids.length := by omega
              obtain ⟨sn, hsn⟩ : ∃ sn, sn = sizeN c := ⟨_, rfl⟩
              have HSN := Lib.hid hsn
              have HM1 : Hid (mayB c = decide ((sn : Int) ≤ 4294967295)) := Lib.hid (by rw [HMB.out, HLD.out, HAN.out, decide_eq_true hz, ← hsn]; simp)
              clear hsn
              rcases hs4 : decide ((sn : Int) < 4294967296) with _ | _
              · have hs5 := of_decide_eq_false hs4
                have hs6 : decide (sn < 4294967296) = false := by rw [decide_eq_false_iff_not]; omega
                have HM : Hid (mayB c = false) := Lib.hid (by rw [HM1.out, decide_eq_false (show ¬ (sn : Int) ≤ 4294967295 by omega)])
                clear hs5
                go_wp2_with fail
                have hsz := rsize2 c A n _ hck h1000 HKD.out
                unfold ccs at hsz
                rw [HDD.out] at hsz
                refine hsz.mono ?_
                clear hsz
                rintro e w5 ⟨rfl, k5⟩
                rw [← HSN.out]
                have K5 := Lib.hid (KP.out.trans k5)
                clear k5
                go_wp2_with fail
                go_ret
                rw [HM.out]
                exact ⟨rfl, K0.out.trans K5.out⟩
              · have hs5 := of_decide_eq_true hs4
                have hs6 : decide (sn < 4294967296) = true := by rw [decide_eq_true_eq]; omega
                have HM : Hid (mayB c = true) := Lib.hid (by rw [HM1.out, decide_eq_true (show (sn : Int) ≤ 4294967295 by omega)])
                clear hs5
                go_wp2_with fail
                have hsz := rsize2 c A n _ hck h1000 HKD.out
                unfold ccs at hsz
                rw [HDD.out] at hsz
                refine hsz.mono ?_
                clear hsz
                rintro e w5 ⟨rfl, k5⟩
                rw [← HSN.out]
                have K5 := Lib.hid (KP.out.trans k5)
                clear k5
                go_wp2_with fail
                go_ret
                rw [HM.out]
                exact ⟨rfl, K0.out.trans K5.out⟩
            · have hz1 : ¬ (0 : Int) < c.kids.length := by omega
              have HM : Hid (mayB c = false) := Lib.hid (by rw [HMB.out, HLD.out, decide_eq_false hz]; rfl)
              go_wp2_with fail
              go_ret
              rw [HM.out]
              exact ⟨rfl, K0.out.trans KP.out⟩
          · have HM : Hid (mayB c = false) := Lib.hid (by rw [HMB.out, lead_data hd0]; rfl)
            have hd1 : ¬ c.data.toList = [] := fun e => hd0 (by rw [← mk_byt c.data, ← toList_byt, e])
            clear hd0
            go_wp2_with fail
            go_ret
            rw [HM.out]
            exact ⟨rfl, K0.out.trans KP.out⟩
set_option maxRecDepth 100000 in
set_option maxHeartbeats 8000000 in
theorem rmay3 (c : Ck) (A : Option Addr) (n : Nat) (w : World) (h : CkR w c A n) (h1000 : c.kids.length ≤ 1000) (hkd : c.kind = 3) :
    Calls Try.prog 20 #[.agg (ccs c A n)] w fun e w' => e = .returned (.bool (mayB c)) ∧ Kp (fun _ => False) w w' := by
  obtain ⟨W, hW, b0, k0⟩ : ∃ W, W = w.alloc (.cells (ccs c A n) 32) ∧ Box W w.heap.size 32 (ccs c A n) ∧ Kp (fun _ => False) w W := ⟨_, rfl, Box.new w _ _, (Kp.refl _ w).alloc _⟩
  have HW := Lib.hid hW
  have K0 := Lib.hid k0
  have HF : Hid (∀ v, Kp (fun _ => False) W v → CkR v c A n ∧ v.cell? ⟨w.heap.size, 0, none⟩ = some (.int .u8 c.kind) ∧ v.cell? ⟨w.heap.size, 1, none⟩ = some (.string c.data) ∧ v.cell? ⟨w.heap.size, 2, none⟩ = some (.slice A c.kids.length n)) := Lib.hid fun v hv =>
    ⟨h.still (k0.trans hv), (b0.kp hv (fun h => h)).cell 0, (b0.kp hv (fun h => h)).cell 1, (b0.kp hv (fun h => h)).cell 2⟩
  clear hW b0 k0 h
  obtain ⟨_, y0, y1, y2⟩ := HF.out W (Kp.refl _ _)
  obtain ⟨hn, hhn⟩ : ∃ hn, hn = heightN c := ⟨_, rfl⟩
  have HHN := Lib.hid hhn
  have HMB := Lib.hid (may_dir hkd)
  have d1 : ¬ (c.kind : Int) < 1 := by omega
  have d3 : ¬ (3 : Int) < c.kind := by omega
  have de : ((c.kind : Int) == 1) = false := by simp; omega
  have e2 : ((c.kind : Int) == 2) = false := by simp; omega
  have e3 : ((c.kind : Int) == 3) = true := by simp; omega
  have HKD := Lib.hid hkd
  by_cases d255 : (255 : Int) < hn
  · have HM : Hid (mayB c = false) := Lib.hid (by rw [HMB.out, lead_high (by omega)]; rfl)
    clear hhn hkd
    go_enter Try.func20, Try.ntmps20
    go_upto_region 1 with fail
    rw [← HW.out]
    go_wp2_with fail
    refine (rheight_any c A n _ (HF.out W (Kp.refl _ _)).1).mono ?_
    rintro e w1 ⟨rfl, k1⟩
    rw [← HHN.out]
    have K1 := Lib.hid k1
    clear k1 y0 y1 y2
    obtain ⟨_, y0, y1, y2⟩ := HF.out w1 K1.out
    go_wp2_with fail
    go_ret
    rw [HM.out]
    exact ⟨rfl, K0.out.trans K1.out⟩
  · have h255 : Hid (¬ 255 < heightN c) := Lib.hid (by omega)
    by_cases h6 : (6 : Int) < c.kids.length
    · have HM : Hid (mayB c = false) := Lib.hid (by rw [HMB.out, lead_many (by omega)]; rfl)
      clear hhn hkd
      go_enter Try.func20, Try.ntmps20
      go_upto_region 1 with fail
      rw [← HW.out]
      go_wp2_with fail
      refine (rheight_any c A n _ (HF.out W (Kp.refl _ _)).1).mono ?_
      rintro e w1 ⟨rfl, k1⟩
      rw [← HHN.out]
      have K1 := Lib.hid k1
      clear k1 y0 y1 y2
      obtain ⟨_, y0, y1, y2⟩ := HF.out w1 K1.out
      go_wp2_with fail
      go_ret
      rw [HM.out]
      exact ⟨rfl, K0.out.trans K1.out⟩
    · clear hhn hkd
      go_enter Try.func20, Try.ntmps20
      go_upto_region 1 with fail
      rw [← HW.out]
      go_wp2_with fail
      refine (rheight_any c A n _ (HF.out W (Kp.refl _ _)).1).mono ?_
      rintro e w1 ⟨rfl, k1⟩
      rw [← HHN.out]
      have K1 := Lib.hid k1
      clear k1 y0 y1 y2
      obtain ⟨_, y0, y1, y2⟩ := HF.out w1 K1.out
      go_upto_region 6 with fail
      clear y0 y1 y2
      go_loopw [3] (fun s3 wr => ∃ k : Nat, k ≤ c.kids.length ∧ s3 = .int .i64 k ∧ (∀ j x, j < k → c.kids[j]? = some x → rise1 (prevN ⟨#[]⟩ c.kids j) x = true) ∧ Kp (fun _ => False) W wr) (fun s3 _ => c.kids.length - (Go.RowKit.intOf s3).toNat)
      case atStart => exact ⟨0, Nat.zero_le _, rfl, fun j x hj => by omega, K1.out⟩
      case round =>
        obtain ⟨k, hk, rfl, hall, hkp⟩ := hrel
        have HALL := Lib.hid hall
        have KP := Lib.hid hkp
        clear hall hkp
        obtain ⟨hck, y0, y1, y2⟩ := HF.out wr KP.out
        by_cases hlt : k < c.kids.length
        · obtain ⟨x, hx⟩ : ∃ x, c.kids[k]? = some x := ⟨_, List.getElem?_eq_getElem hlt⟩
          obtain ⟨b, o, hA, hrg⟩ := hck.k.at hx
          have XO := Lib.hid (hck.ok.2 x (List.mem_of_getElem? hx))
          have HXK := Lib.hid hx
          obtain ⟨p, hp⟩ : ∃ p, o + k * 36 = p := ⟨_, rfl⟩
          rw [show o + 36 * k = p by omega] at hrg
          have RG := Lib.hid hrg
          have HCK := Lib.hid hck
          have HA := Lib.hid hA
          rw [hA] at y2
          clear hrg hx hck hA
          go_upto_region 9 with (first | (refine wpList_load_mid rfl 58 (.tmp 47) rfl b p rfl (kcs x) _ RG.out Try.underlying58 rfl (by rw [kcs_len XO.out]; kernel_rfl) ?_) | (refine wpList_new rfl rfl 58 rfl (.tmp 4) (.tmp 48) rfl zRKid (kcs x) (kcs_len XO.out) (fun _ => rfl) (fun _ => rfl) (kcs_one x) ?_; intro w4 g4 hg4 hb4 hk4; have HB4 := Lib.hid hb4; have K4 := Lib.hid (KP.out.trans hk4); have HK4 := Lib.hid hk4; clear hk4 hg4 hb4) | fail)
          clear y0 y1 y2 hp
          have HX : Hid (∀ v, Kp (fun _ => False) w4 v → v.cell? ⟨g4, 0, none⟩ = some (.string x.name) ∧ v.cell? ⟨g4, 1, none⟩ = some (.bool x.dir)) := Lib.hid fun v hv => by
            obtain ⟨u0, u1, _⟩ := kid_cells (HB4.out.kp hv (fun e => e)).range' XO.out
            exact ⟨u0, u1⟩
          have HZ : Hid (∀ v, Kp (fun _ => False) w4 v → v.cell? ⟨w.heap.size, 0, none⟩ = some (.int .u8 c.kind) ∧ v.cell? ⟨w.heap.size, 2, none⟩ = some (.slice (some ⟨b, o, none⟩) c.kids.length n)) := Lib.hid fun v hv => by
            obtain ⟨_, u0, _, u2⟩ := HF.out v (K4.out.trans hv)
            rw [HA.out] at u2
            exact ⟨u0, u2⟩
          by_cases h1 : (x.name.size : Int) < 1
          · have HM : Hid (mayB c = false) := Lib.hid (by rw [HMB.out, rises_no HXK.out (by rw [rise_doc HXK.out]; rw [decide_eq_true (show x.name.size < 1 by omega)]; rfl), Bool.and_false])
            refine wp_region_quiet (C := fun v => Kp (fun _ => False) (w4) v) (by kernel_rfl) (by kernel_rfl) ((Kp.refl _ _).drew) (Wq.out ?_)
            refine qtk (h := ?_)
            refine qtk (hy := fun v hv => by (obtain ⟨y0, y2⟩ := HZ.out v hv; unfold Oper.quietAt; go_simp; with_reducible rfl)) (h := ?_)
            refine qtk (h := ?_)
            refine qtk (h := ?_)
            refine qsk (h := ?_)
            refine qsk (h := ?_)
            refine qsk (h := ?_)
            refine qsk (h := ?_)
            refine qsk (h := ?_)
            refine qsk (h := ?_)
            refine qsk (h := ?_)
            refine qtk (h := ?_)
            refine qtk (h := ?_)
            refine qtk (h := ?_)
            refine qtk (hy := fun v hv => by (obtain ⟨y0, y2⟩ := HZ.out v hv; unfold Oper.quietAt; go_simp; with_reducible rfl)) (h := ?_)
            refine qtk (h := ?_)
            refine qtk (h := ?_)
            refine qtk (h := ?_)
            refine qtk (hy := fun v hv => by (obtain ⟨u0, u1⟩ := HX.out v hv; unfold Oper.quietAt; go_simp; with_reducible rfl)) (h := ?_)
            refine qtk (h := ?_)
            refine qtk (h := ?_)
            refine qtk (h := ?_)
            refine qsk (h := ?_)
            refine qsk (h := ?_)
            refine qsk (h := ?_)
            refine qsk (h := ?_)
            refine qtk (h := ?_)
            refine qtk (h := ?_)
            refine qsk (h := ?_)
            refine qsk (h := ?_)
            refine qsk (h := ?_)
            refine qsk (h := ?_)
            refine qsk (h := ?_)
            refine qsk (h := ?_)
            refine qsk (h := ?_)
            refine qsk (h := ?_)
            refine qsk (h := ?_)
            refine qsk (h := ?_)
            refine qsk (h := ?_)
            refine qsk (h := ?_)
            refine qsk (h := ?_)
            refine qsk (h := ?_)
            refine qtk (h := ?_)
            refine qtk (h := ?_)
            refine qtk (h := ?_)
            refine Wq.mk (wpQuiet_nil ?_)
            intro w9 hw9
            have K9 := Lib.hid (K4.out.trans hw9)
            clear hw9
            go_wp2_with fail
            go_ret
            rw [HM.out]
            exact ⟨rfl, K0.out.trans K9.out⟩
          · by_cases h16 : (16 : Int) < x.name.size
            · have HM : Hid (mayB c = false) := Lib.hid (by rw [HMB.out, rises_no HXK.out (by rw [rise_doc HXK.out]; rw [decide_eq_true (show 16 < x.name.size by omega), Bool.or_true]; rfl), Bool.and_false])
              refine wp_region_quiet (C := fun v => Kp (fun _ => False) (w4) v) (by kernel_rfl) (by kernel_rfl) ((Kp.refl _ _).drew) (Wq.out ?_)
              refine qtk (h := ?_)
              refine qtk (hy := fun v hv => by (obtain ⟨y0, y2⟩ := HZ.out v hv; unfold Oper.quietAt; go_simp; with_reducible rfl)) (h := ?_)
              refine qtk (h := ?_)
              refine qtk (h := ?_)
              refine qsk (h := ?_)
              refine qsk (h := ?_)
              refine qsk (h := ?_)
              refine qsk (h := ?_)
              refine qsk (h := ?_)
              refine qsk (h := ?_)
              refine qsk (h := ?_)
              refine qtk (h := ?_)
              refine qtk (h := ?_)
              refine qtk (h := ?_)
              refine qtk (hy := fun v hv => by (obtain ⟨y0, y2⟩ := HZ.out v hv; unfold Oper.quietAt; go_simp; with_reducible rfl)) (h := ?_)
              refine qtk (h := ?_)
              refine qtk (h := ?_)
              refine qtk (h := ?_)
              refine qtk (hy := fun v hv => by (obtain ⟨u0, u1⟩ := HX.out v hv; unfold Oper.quietAt; go_simp; with_reducible rfl)) (h := ?_)
              refine qtk (h := ?_)
              refine qtk (h := ?_)
              refine qtk (h := ?_)
              refine qtk (h := ?_)
              refine qtk (hy := fun v hv => by (obtain ⟨u0, u1⟩ := HX.out v hv; unfold Oper.quietAt; go_simp; with_reducible rfl)) (h := ?_)
              refine qtk (h := ?_)
              refine qtk (h := ?_)
              refine qtk (h := ?_)
              refine qtk (h := ?_)
              refine qsk (h := ?_)
              refine qsk (h := ?_)
              refine qsk (h := ?_)
              refine qsk (h := ?_)
              refine qsk (h := ?_)
              refine qsk (h := ?_)
              refine qsk (h := ?_)
              refine qsk (h := ?_)
              refine qsk (h := ?_)
              refine qsk (h := ?_)
              refine qsk (h := ?_)
              refine qsk (h := ?_)
              refine qsk (h := ?_)
              refine qsk (h := ?_)
              refine qtk (h := ?_)
              refine qtk (h := ?_)
              refine qtk (h := ?_)
              refine Wq.mk (wpQuiet_nil ?_)
              intro w9 hw9
              have K9 := Lib.hid (K4.out.trans hw9)
              clear hw9
              go_wp2_with fail
              go_ret
              rw [HM.out]
              exact ⟨rfl, K0.out.trans K9.out⟩
            · by_cases hk0 : k = 0
              · have HE : Hid (rise1 (prevN ⟨#[]⟩ c.kids k) x = true) := Lib.hid (by rw [rise_doc HXK.out, decide_eq_false (show ¬ x.name.size < 1 by omega), decide_eq_false (show ¬ 16 < x.name.size by omega), decide_eq_false (show ¬ 0 < k by omega)]; rfl)
                have hk1 : decide ((0 : Int) < (k : Int)) = false := by simp; omega
                have hk2 : decide (0 < k) = false := by simp; omega
                clear hk0
                refine wp_region_quiet (C := fun v => Kp (fun _ => False) (w4) v) (by kernel_rfl) (by kernel_rfl) ((Kp.refl _ _).drew) (Wq.out ?_)
                refine qtk (h := ?_)
                refine qtk (hy := fun v hv => by (obtain ⟨y0, y2⟩ := HZ.out v hv; unfold Oper.quietAt; go_simp; with_reducible rfl)) (h := ?_)
                refine qtk (h := ?_)
                refine qtk (h := ?_)
                refine qsk (h := ?_)
                refine qsk (h := ?_)
                refine qsk (h := ?_)
                refine qsk (h := ?_)
                refine qsk (h := ?_)
                refine qsk (h := ?_)
                refine qsk (h := ?_)
                refine qtk (h := ?_)
                refine qtk (h := ?_)
                refine qtk (h := ?_)
                refine qtk (hy := fun v hv => by (obtain ⟨y0, y2⟩ := HZ.out v hv; unfold Oper.quietAt; go_simp; with_reducible rfl)) (h := ?_)
                refine qtk (h := ?_)
                refine qtk (h := ?_)
                refine qtk (h := ?_)
                refine qtk (hy := fun v hv => by (obtain ⟨u0, u1⟩ := HX.out v hv; unfold Oper.quietAt; go_simp; with_reducible rfl)) (h := ?_)
                refine qtk (h := ?_)
                refine qtk (h := ?_)
                refine qtk (h := ?_)
                refine qtk (h := ?_)
                refine qtk (hy := fun v hv => by (obtain ⟨u0, u1⟩ := HX.out v hv; unfold Oper.quietAt; go_simp; with_reducible rfl)) (h := ?_)
                refine qtk (h := ?_)
                refine qtk (h := ?_)
                refine qtk (h := ?_)
                refine qtk (h := ?_)
                refine qtk (h := ?_)
                refine qtk (h := ?_)
                refine qtk (h := ?_)
                refine qsk (h := ?_)
                refine qsk (h := ?_)
                refine qsk (h := ?_)
                refine qsk (h := ?_)
                refine qsk (h := ?_)
                refine qsk (h := ?_)
                refine qsk (h := ?_)
                refine qsk (h := ?_)
                refine qsk (h := ?_)
                refine qsk (h := ?_)
                refine qtk (h := ?_)
                refine qtk (h := ?_)
                refine qtk (h := ?_)
                refine qtk (h := ?_)
                refine Wq.mk (wpQuiet_nil ?_)
                intro w9 hw9
                have K9 := Lib.hid (K4.out.trans hw9)
                clear hw9
                clear h1 h16 hk1 hk2
                go_wp2_with fail
                go_roundw
                case rel =>
                  refine ⟨k + 1, by omega, by go_num, fun j y hj hy => ?_, K9.out⟩
                  rcases Nat.lt_or_ge j k with hjk | hjk
                  · exact HALL.out j y hjk hy
                  · obtain rfl : j = k := by omega
                    rw [HXK.out] at hy
                    cases hy
                    exact HE.out
                case measure => simp [Go.RowKit.intOf]; omega
              · obtain ⟨i, hi⟩ : ∃ i, k = i + 1 := ⟨k - 1, by omega⟩
                obtain ⟨z, hz⟩ : ∃ z, c.kids[i]? = some z := ⟨_, List.getElem?_eq_getElem (by omega)⟩
                obtain ⟨b', o', hA', hrz⟩ := HCK.out.k.at hz
                rw [HA.out] at hA'
                injection hA' with hA'
                injection hA' with hb' ho' _
                subst hb' ho'
                obtain ⟨pz, hpz⟩ : ∃ p, o + i * 36 = p := ⟨_, rfl⟩
                rw [show o + 36 * i = pz by omega] at hrz
                have yz : Hid (wr.cell? ⟨b, pz, none⟩ = some (.string z.name)) := Lib.hid (kid_cells hrz (HCK.out.ok.2 z (List.mem_of_getElem? hz))).1
                have HPN : Hid (prevN ⟨#[]⟩ c.kids k = z.name) := Lib.hid (by rw [hi, prevN, List.getD_eq_getElem?_getD, hz]; rfl)
                have HPV : Hid (∀ v, Kp (fun _ => False) w4 v → v.cell? ⟨w.heap.size, 2, none⟩ = some (.slice (some ⟨b, o, none⟩) c.kids.length n) ∧ v.cell? ⟨b, pz, none⟩ = some (.string z.name)) := Lib.hid fun v hv => ⟨(HZ.out v hv).2, ((HK4.out.trans hv).cell (p := ⟨b, pz, none⟩) (World.block_lt_of_cell? wr ⟨b, pz, none⟩ yz.out) (fun h => h)).trans yz.out⟩
                have hd0 : decide (0 < k) = true := decide_eq_true (by omega)
                have HD0 := Lib.hid hd0
                have hwk : IntKind.i64.wrap ((k : Int) - 1) = (i : Int) := by rw [IntWalk.i64_in _ (by omega)]; omega
                have hk1 : decide ((0 : Int) < (k : Int)) = true := by simp; omega
                have hk2 : decide (0 < k) = true := by simp; omega
                have hli : i < c.kids.length := by omega
                clear hz hrz hi hd0 hk0
                have hle : Go.Op.bytesLess z.name.toList x.name.toList = bls z.name x.name := rfl
                rcases hbl : bls z.name x.name with _ | _
                · rw [hbl] at hle
                  have HM : Hid (mayB c = false) := Lib.hid (by rw [HMB.out, rises_no HXK.out (by rw [rise_doc HXK.out]; rw [HPN.out, hbl, HD0.out]; simp), Bool.and_false])
                  clear hbl
                  refine wp_region_quiet (C := fun v => Kp (fun _ => False) (w4) v) (by kernel_rfl) (by kernel_rfl) ((Kp.refl _ _).drew) (Wq.out ?_)
                  refine qtk (h := ?_)
                  refine qtk (hy := fun v hv => by (obtain ⟨y0, y2⟩ := HZ.out v hv; unfold Oper.quietAt; go_simp; with_reducible rfl)) (h := ?_)
                  refine qtk (h := ?_)
                  refine qtk (h := ?_)
                  refine qsk (h := ?_)
                  refine qsk (h := ?_)
                  refine qsk (h := ?_)
                  refine qsk (h := ?_)
                  refine qsk (h := ?_)
                  refine qsk (h := ?_)
                  refine qsk (h := ?_)
                  refine qtk (h := ?_)
                  refine qtk (h := ?_)
                  refine qtk (h := ?_)
                  refine qtk (hy := fun v hv => by (obtain ⟨y0, y2⟩ := HZ.out v hv; unfold Oper.quietAt; go_simp; with_reducible rfl)) (h := ?_)
                  refine qtk (h := ?_)
                  refine qtk (h := ?_)
                  refine qtk (h := ?_)
                  refine qtk (hy := fun v hv => by (obtain ⟨u0, u1⟩ := HX.out v hv; unfold Oper.quietAt; go_simp; with_reducible rfl)) (h := ?_)
                  refine qtk (h := ?_)
                  refine qtk (h := ?_)
                  refine qtk (h := ?_)
                  refine qtk (h := ?_)
                  refine qtk (hy := fun v hv => by (obtain ⟨u0, u1⟩ := HX.out v hv; unfold Oper.quietAt; go_simp; with_reducible rfl)) (h := ?_)
                  refine qtk (h := ?_)
                  refine qtk (h := ?_)
                  refine qtk (h := ?_)
                  refine qtk (h := ?_)
                  refine qtk (h := ?_)
                  refine qtk (h := ?_)
                  refine qtk (h := ?_)
                  refine qtk (h := ?_)
                  refine qtk (hy := fun v hv => by (obtain ⟨v2, vp⟩ := HPV.out v hv; unfold Oper.quietAt; go_simp; with_reducible rfl)) (h := ?_)
                  refine qtk (h := ?_)
                  refine qtk (h := ?_)
                  refine qtk (h := ?_)
                  refine qtk (h := ?_)
                  refine qtk (hy := fun v hv => by (obtain ⟨v2, vp⟩ := HPV.out v hv; unfold Oper.quietAt; go_simp; with_reducible rfl)) (h := ?_)
                  refine qtk (h := ?_)
                  refine qtk (hy := fun v hv => by (obtain ⟨u0, u1⟩ := HX.out v hv; unfold Oper.quietAt; go_simp; with_reducible rfl)) (h := ?_)
                  refine qtk (h := ?_)
                  refine qtk (h := ?_)
                  refine qtk (h := ?_)
                  refine qtk (h := ?_)
                  refine qtk (h := ?_)
                  refine Wq.mk (wpQuiet_nil ?_)
                  intro w9 hw9
                  have K9 := Lib.hid (K4.out.trans hw9)
                  clear hw9
                  go_wp2_with fail
                  go_ret
                  rw [HM.out]
                  exact ⟨rfl, K0.out.trans K9.out⟩
                · rw [hbl] at hle
                  have HE : Hid (rise1 (prevN ⟨#[]⟩ c.kids k) x = true) := Lib.hid (by rw [rise_doc HXK.out, decide_eq_false (show ¬ x.name.size < 1 by omega), decide_eq_false (show ¬ 16 < x.name.size by omega), HPN.out, hbl]; simp)
                  clear hbl
                  refine wp_region_quiet (C := fun v => Kp (fun _ => False) (w4) v) (by kernel_rfl) (by kernel_rfl) ((Kp.refl _ _).drew) (Wq.out ?_)
                  refine qtk (h := ?_)
                  refine qtk (hy := fun v hv => by (obtain ⟨y0, y2⟩ := HZ.out v hv; unfold Oper.quietAt; go_simp; with_reducible rfl)) (h := ?_)
                  refine qtk (h := ?_)
                  refine qtk (h := ?_)
                  refine qsk (h := ?_)
                  refine qsk (h := ?_)
                  refine qsk (h := ?_)
                  refine qsk (h := ?_)
                  refine qsk (h := ?_)
                  refine qsk (h := ?_)
                  refine qsk (h := ?_)
                  refine qtk (h := ?_)
                  refine qtk (h := ?_)
                  refine qtk (h := ?_)
                  refine qtk (hy := fun v hv => by (obtain ⟨y0, y2⟩ := HZ.out v hv; unfold Oper.quietAt; go_simp; with_reducible rfl)) (h := ?_)
                  refine qtk (h := ?_)
                  refine qtk (h := ?_)
                  refine qtk (h := ?_)
                  refine qtk (hy := fun v hv => by (obtain ⟨u0, u1⟩ := HX.out v hv; unfold Oper.quietAt; go_simp; with_reducible rfl)) (h := ?_)
                  refine qtk (h := ?_)
                  refine qtk (h := ?_)
                  refine qtk (h := ?_)
                  refine qtk (h := ?_)
                  refine qtk (hy := fun v hv => by (obtain ⟨u0, u1⟩ := HX.out v hv; unfold Oper.quietAt; go_simp; with_reducible rfl)) (h := ?_)
                  refine qtk (h := ?_)
                  refine qtk (h := ?_)
                  refine qtk (h := ?_)
                  refine qtk (h := ?_)
                  refine qtk (h := ?_)
                  refine qtk (h := ?_)
                  refine qtk (h := ?_)
                  refine qtk (h := ?_)
                  refine qtk (hy := fun v hv => by (obtain ⟨v2, vp⟩ := HPV.out v hv; unfold Oper.quietAt; go_simp; with_reducible rfl)) (h := ?_)
                  refine qtk (h := ?_)
                  refine qtk (h := ?_)
                  refine qtk (h := ?_)
                  refine qtk (h := ?_)
                  refine qtk (hy := fun v hv => by (obtain ⟨v2, vp⟩ := HPV.out v hv; unfold Oper.quietAt; go_simp; with_reducible rfl)) (h := ?_)
                  refine qtk (h := ?_)
                  refine qtk (hy := fun v hv => by (obtain ⟨u0, u1⟩ := HX.out v hv; unfold Oper.quietAt; go_simp; with_reducible rfl)) (h := ?_)
                  refine qtk (h := ?_)
                  refine qtk (h := ?_)
                  refine qtk (h := ?_)
                  refine qtk (h := ?_)
                  refine qtk (h := ?_)
                  refine Wq.mk (wpQuiet_nil ?_)
                  intro w9 hw9
                  have K9 := Lib.hid (K4.out.trans hw9)
                  clear hw9
                  clear h1 h16 hle hwk hk1 hk2 hli hpz
                  go_wp2_with fail
                  go_roundw
                  case rel =>
                    refine ⟨k + 1, by omega, by go_num, fun j y hj hy => ?_, K9.out⟩
                    rcases Nat.lt_or_ge j k with hjk | hjk
                    · exact HALL.out j y hjk hy
                    · obtain rfl : j = k := by omega
                      rw [HXK.out] at hy
                      cases hy
                      exact HE.out
                  case measure => simp [Go.RowKit.intOf]; omega
        · obtain rfl : k = c.kids.length := by omega
          clear hlt hk
          by_cases hd0 : c.data = ⟨#[]⟩
          · have HLD := Lib.hid (lead_yes h255.out (by omega) hd0)
            rw [hd0] at y1
            have HDD := Lib.hid hd0
            clear hd0
            have HM : Hid (mayB c = true) := Lib.hid (by rw [HMB.out, HLD.out, rises_iff.2 fun j x hx => HALL.out j x (List.getElem?_eq_some_iff.1 hx).1 hx]; rfl)
            go_wp2_with fail
            go_ret
            rw [HM.out]
            exact ⟨rfl, K0.out.trans KP.out⟩
          · have HM : Hid (mayB c = false) := Lib.hid (by rw [HMB.out, lead_data hd0]; rfl)
            have hd1 : ¬ c.data.toList = [] := fun e => hd0 (by rw [← mk_byt c.data, ← toList_byt, e])
            clear hd0
            go_wp2_with fail
            go_ret
            rw [HM.out]
            exact ⟨rfl, K0.out.trans KP.out⟩
theorem rmay_any (c : Ck) (A : Option Addr) (n : Nat) (w : World) (h : CkR w c A n) (h1000 : c.kids.length ≤ 1000) :
    Calls Try.prog 20 #[.agg (ccs c A n)] w fun e w' => e = .returned (.bool (mayB c)) ∧ Kp (fun _ => False) w w' := by
  by_cases h1 : c.kind = 1
  · exact rmay1 c A n w h h1000 h1
  · by_cases h2 : c.kind = 2
    · exact rmay2 c A n w h h1000 h2
    · by_cases h3 : c.kind = 3
      · exact rmay3 c A n w h h1000 h3
      · exact rmay0 c A n w h h1000 (by omega)
end Go.Proofs.Ytoonihhjdmkflaa
