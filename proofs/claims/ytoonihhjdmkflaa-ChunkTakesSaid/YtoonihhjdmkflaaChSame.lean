/- Whether a chunk is greater than the statements look at; whether two are the same. No condition. -/
import Derived.Test.YtoonihhjdmkflaaChTake
namespace Go.Proofs.Ytoonihhjdmkflaa
open Go.RowKit

def gtK (k : Kd) : Bool := decide (400 < k.name.size)
def gtB (c : Ck) : Bool := decide (20 < c.kids.length) || decide (400 < c.data.size) || c.kids.any gtK
theorem gtB_no {c : Ck} (h : gtB c = false) : c.kids.length ≤ 20 ∧ c.data.size ≤ 400 ∧ ∀ k ∈ c.kids, k.name.size ≤ 400 := by
  simp only [gtB, Bool.or_eq_false_iff, decide_eq_false_iff_not, List.any_eq_false] at h
  refine ⟨by omega, by omega, fun k hk => ?_⟩
  have := h.2 k hk
  simp only [gtK, decide_eq_true_eq] at this
  omega
theorem any_no {α : Type} {p : α → Bool} {l : List α} {k : Nat} {x : α} (h : (l.take k).any p = false) (hx : l[k]? = some x) (hf : p x = false) : (l.take (k + 1)).any p = false := by
  have hlt : k < l.length := (List.getElem?_eq_some_iff.1 hx).1
  rw [take_snoc _ _ hlt, List.any_append, h]
  rw [List.getElem?_eq_getElem hlt] at hx
  cases hx
  simp [hf]
theorem any_yes {α : Type} {p : α → Bool} {l : List α} {k : Nat} {x : α} (hx : l[k]? = some x) (hf : p x = true) : l.any p = true := List.any_eq_true.2 ⟨x, List.mem_of_getElem? hx, hf⟩
set_option maxRecDepth 100000 in
set_option maxHeartbeats 2000000 in
theorem great_any (c : Ck) (A : Option Addr) (n : Nat) (w : World) (h : CkR w c A n) :
    Calls Try.prog 10 #[.agg (ccs c A n)] w fun e w' => e = .returned (.bool (gtB c)) ∧ Kp (fun _ => False) w w' := by
  obtain ⟨W, hW, b0, k0⟩ : ∃ W, W = w.alloc (.cells (ccs c A n) 32) ∧ Box W w.heap.size 32 (ccs c A n) ∧ Kp (fun _ => False) w W := ⟨_, rfl, Box.new w _ _, (Kp.refl _ w).alloc _⟩
  have HW := Lib.hid hW
  have K0 := Lib.hid k0
  have HF : Hid (∀ v, Kp (fun _ => False) W v → KsR v A c.kids ∧ v.cell? ⟨w.heap.size, 1, none⟩ = some (.string c.data) ∧ v.cell? ⟨w.heap.size, 2, none⟩ = some (.slice A c.kids.length n)) := Lib.hid fun v hv =>
    ⟨(h.still (k0.trans hv)).k, (b0.kp hv (fun h => h)).cell 1, (b0.kp hv (fun h => h)).cell 2⟩
  have hlen : c.kids.length ≤ maxLen := Nat.le_trans h.le h.mx
  unfold maxLen at hlen
  have HO := Lib.hid h.ok.2
  clear hW b0 k0 h
  obtain ⟨_, y1, y2⟩ := HF.out W (Kp.refl _ _)
  by_cases h1 : (20 : Int) < c.kids.length
  · have HG : Hid (gtB c = true) := Lib.hid (by unfold gtB; rw [decide_eq_true (show 20 < c.kids.length by omega)]; rfl)
    go_enter Try.func10, Try.ntmps10
    go_upto_region 1 with fail
    rw [← HW.out]
    go_wp2_with fail
    go_ret
    rw [HG.out]
    exact ⟨rfl, K0.out⟩
  · by_cases h2 : (400 : Int) < c.data.size
    · have HG : Hid (gtB c = true) := Lib.hid (by unfold gtB; rw [decide_eq_true (show 400 < c.data.size by omega), Bool.or_true]; rfl)
      go_enter Try.func10, Try.ntmps10
      go_upto_region 1 with fail
      rw [← HW.out]
      go_wp2_with fail
      go_ret
      rw [HG.out]
      exact ⟨rfl, K0.out⟩
    · have HG : Hid (gtB c = c.kids.any gtK) := Lib.hid (by unfold gtB; rw [decide_eq_false (show ¬ 20 < c.kids.length by omega), decide_eq_false (show ¬ 400 < c.data.size by omega)]; rfl)
      go_enter Try.func10, Try.ntmps10
      go_upto_region 1 with fail
      rw [← HW.out]
      go_wp2_with fail
      clear y1 y2 h1 h2
      go_loopw [3] (fun s3 wr => ∃ k : Nat, k ≤ c.kids.length ∧ s3 = .int .i64 k ∧ (c.kids.take k).any gtK = false ∧ Kp (fun _ => False) W wr) (fun s3 _ => c.kids.length - (Go.RowKit.intOf s3).toNat)
      case atStart => exact ⟨0, Nat.zero_le _, rfl, rfl, Kp.refl _ _⟩
      case round =>
        obtain ⟨k, hk, rfl, hall, hkp⟩ := hrel
        have HALL := Lib.hid hall
        have KP := Lib.hid hkp
        clear hall hkp
        obtain ⟨hks, _, y2⟩ := HF.out wr KP.out
        by_cases hlt : k < c.kids.length
        · obtain ⟨x, hx⟩ : ∃ x, c.kids[k]? = some x := ⟨_, List.getElem?_eq_getElem hlt⟩
          obtain ⟨b, o, hA, hrg⟩ := hks.at hx
          have XO := Lib.hid (HO.out x (List.mem_of_getElem? hx))
          obtain ⟨p, hp⟩ : ∃ p, o + k * 36 = p := ⟨_, rfl⟩
          rw [show o + 36 * k = p by omega] at hrg
          have y := (kid_cells hrg XO.out).1
          have HX := Lib.hid hx
          rw [hA] at y2
          clear hrg hx hks hA
          by_cases h4 : (400 : Int) < x.name.size
          · have HN : Hid (c.kids.any gtK = true) := Lib.hid (any_yes HX.out (by unfold gtK; rw [decide_eq_true_eq]; omega))
            go_wp2_with fail
            go_ret
            rw [HG.out, HN.out]
            exact ⟨rfl, K0.out.trans KP.out⟩
          · have HN := Lib.hid (any_no HALL.out HX.out (by unfold gtK; rw [decide_eq_false_iff_not]; omega))
            go_wp2_with fail
            go_roundw
            case rel => exact ⟨k + 1, by omega, by go_num, HN.out, KP.out⟩
            case measure => simp [Go.RowKit.intOf]; omega
        · have HN : Hid (c.kids.any gtK = false) := Lib.hid (by have := HALL.out; rwa [List.take_of_length_le (by omega)] at this)
          go_wp2_with fail
          go_ret
          rw [HG.out, HN.out]
          exact ⟨rfl, K0.out.trans KP.out⟩
theorem same_len {a b : Ck} (h : a.kids.length ≠ b.kids.length) : decide (a = b) = false := decide_eq_false fun e => h (by rw [e])
theorem same_dat {a b : Ck} (h : a.data ≠ b.data) : decide (a = b) = false := decide_eq_false fun e => h (by rw [e])
theorem same_knd {a b : Ck} (h : a.kind ≠ b.kind) : decide (a = b) = false := decide_eq_false fun e => h (by rw [e])
theorem bytes_ne {s t : ByteArray} (h : s ≠ t) : (s.toList == t.toList) = false := by rw [eq_byt, decide_eq_false h]
set_option maxRecDepth 100000 in
set_option maxHeartbeats 2000000 in
theorem same_any (a b : Ck) (A B : Option Addr) (n m : Nat) (w : World) (ha : CkR w a A n) (hb : CkR w b B m) :
    Calls Try.prog 8 #[.agg (ccs a A n), .agg (ccs b B m)] w fun e w' => e = .returned (.bool (decide (a = b))) ∧ Kp (fun _ => False) w w' := by
  obtain ⟨W, hW, b0, b1, k0⟩ : ∃ W, W = (w.alloc (.cells (ccs a A n) 25)).alloc (.cells (ccs b B m) 25) ∧ Box W w.heap.size 25 (ccs a A n) ∧ Box W (w.heap.size + 1) 25 (ccs b B m) ∧ Kp (fun _ => False) w W := ⟨_, rfl, (Box.new w _ _).alloc _, by simpa using Box.new (w.alloc (.cells (ccs a A n) 25)) 25 (ccs b B m), ((Kp.refl _ w).alloc _).alloc _⟩
  have HW := Lib.hid hW
  have K0 := Lib.hid k0
  have HF : Hid (∀ v, Kp (fun _ => False) W v → KsR v A a.kids ∧ KsR v B b.kids ∧ v.cell? ⟨w.heap.size, 0, none⟩ = some (.int .u8 a.kind) ∧ v.cell? ⟨w.heap.size, 1, none⟩ = some (.string a.data) ∧ v.cell? ⟨w.heap.size, 2, none⟩ = some (.slice A a.kids.length n) ∧ v.cell? ⟨w.heap.size + 1, 0, none⟩ = some (.int .u8 b.kind) ∧ v.cell? ⟨w.heap.size + 1, 1, none⟩ = some (.string b.data) ∧ v.cell? ⟨w.heap.size + 1, 2, none⟩ = some (.slice B b.kids.length m)) := Lib.hid fun v hv =>
    ⟨(ha.still (k0.trans hv)).k, (hb.still (k0.trans hv)).k, (b0.kp hv (fun h => h)).cell 0, (b0.kp hv (fun h => h)).cell 1, (b0.kp hv (fun h => h)).cell 2, (b1.kp hv (fun h => h)).cell 0, (b1.kp hv (fun h => h)).cell 1, (b1.kp hv (fun h => h)).cell 2⟩
  have hlen : a.kids.length ≤ maxLen := Nat.le_trans ha.le ha.mx
  have hlenb : b.kids.length ≤ maxLen := Nat.le_trans hb.le hb.mx
  unfold maxLen at hlen hlenb
  have HOA := Lib.hid ha.ok.2
  have HOB := Lib.hid hb.ok.2
  clear hW b0 b1 k0 ha hb
  obtain ⟨_, _, y0, y1, y2, z0, z1, z2⟩ := HF.out W (Kp.refl _ _)
  by_cases h1 : a.kind = b.kind
  · have d1 : ((a.kind : Int) != (b.kind : Int)) = false := by simp; omega
    have d1' : (a.kind != b.kind) = false := by simp; omega
    have H1 := Lib.hid h1
    clear h1
    by_cases h2 : a.data = b.data
    · have H2 := Lib.hid h2
      rw [h2] at y1
      have d2 : (b.data.toList != b.data.toList) = false := by simp
      clear h2
      by_cases h3 : a.kids.length = b.kids.length
      · have H3 := Lib.hid h3
        rw [← h3] at z2
        have d3 : ((a.kids.length : Int) != (a.kids.length : Int)) = false := by simp
        clear h3
        go_enter Try.func8, Try.ntmps8
        go_upto_region 1 with fail
        rw [← HW.out]
        go_upto_region 4 with fail
        clear y0 y1 y2 z0 z1 z2 d1 d1' d2 d3
        go_loopw [5] (fun s5 wr => ∃ k : Nat, k ≤ a.kids.length ∧ s5 = .int .i64 k ∧ a.kids.take k = b.kids.take k ∧ Kp (fun _ => False) W wr) (fun s5 _ => a.kids.length - (Go.RowKit.intOf s5).toNat)
        case atStart => exact ⟨0, Nat.zero_le _, rfl, by simp, Kp.refl _ _⟩
        case round =>
          obtain ⟨k, hk, rfl, heq, hkp⟩ := hrel
          have HEQ := Lib.hid heq
          have KP := Lib.hid hkp
          clear heq hkp
          obtain ⟨hka, hkb, _, _, y2, _, _, z2⟩ := HF.out wr KP.out
          by_cases hlt : k < a.kids.length
          · have hltb : k < b.kids.length := by have := H3.out; omega
            obtain ⟨x, hx⟩ : ∃ x, a.kids[k]? = some x := ⟨_, List.getElem?_eq_getElem hlt⟩
            obtain ⟨y, hy⟩ : ∃ y, b.kids[k]? = some y := ⟨_, List.getElem?_eq_getElem hltb⟩
            obtain ⟨ba, oa, hA, hra⟩ := hka.at hx
            obtain ⟨bb, ob, hB, hrb⟩ := hkb.at hy
            have XO := Lib.hid (HOA.out x (List.mem_of_getElem? hx))
            have YO := Lib.hid (HOB.out y (List.mem_of_getElem? hy))
            obtain ⟨pa, hpa⟩ : ∃ p, oa + k * 36 = p := ⟨_, rfl⟩
            rw [show oa + 36 * k = pa by omega] at hra
            obtain ⟨pb, hpb⟩ : ∃ p, ob + k * 36 = p := ⟨_, rfl⟩
            rw [show ob + 36 * k = pb by omega] at hrb
            have RA := Lib.hid hra
            have RB := Lib.hid hrb
            have HXA := Lib.hid hx
            have HYB := Lib.hid hy
            have HA := Lib.hid hA
            have HB := Lib.hid hB
            have H3' : Hid (b.kids.length = a.kids.length) := Lib.hid H3.out.symm
            have HZ : Hid (∀ v, Kp (fun _ => False) wr v → v.cell? ⟨w.heap.size, 2, none⟩ = some (.slice (some ⟨ba, oa, none⟩) a.kids.length n) ∧ v.cell? ⟨w.heap.size + 1, 2, none⟩ = some (.slice (some ⟨bb, ob, none⟩) a.kids.length m)) := Lib.hid fun v hv => by
              obtain ⟨_, _, _, _, u2, _, _, v2⟩ := HF.out v (KP.out.trans hv)
              rw [HA.out] at u2
              rw [HB.out, H3'.out] at v2
              exact ⟨u2, v2⟩
            rw [H3'.out] at z2
            clear hra hrb hx hy hka hkb hA hB hltb
            go_upto_region 6 with fail
            clear y2 z2
            refine wp_region_quiet (C := fun v => Kp (fun _ => False) (wr) v) (by kernel_rfl) (by kernel_rfl) ((Kp.refl _ _).drew) (Wq.out ?_)
            refine qtk (h := ?_)
            refine qtk (hy := fun v hv => by (obtain ⟨u, u'⟩ := HZ.out v hv; unfold Oper.quietAt; go_simp; with_reducible rfl)) (h := ?_)
            refine qtk (h := ?_)
            refine qtk (h := ?_)
            refine qld ba pa (kcs x) (fun v hv => range_kp RA.out hv (fun e => e)) Try.underlying46 (hi := by rw [kcs_len XO.out]; kernel_rfl) (h := ?_)
            refine qtk (h := ?_)
            refine qtk (hy := fun v hv => by (obtain ⟨u, u'⟩ := HZ.out v hv; unfold Oper.quietAt; go_simp; with_reducible rfl)) (h := ?_)
            refine qtk (h := ?_)
            refine qtk (h := ?_)
            refine qld bb pb (kcs y) (fun v hv => range_kp RB.out hv (fun e => e)) Try.underlying46 (hi := by rw [kcs_len YO.out]; kernel_rfl) (h := ?_)
            refine qtk (v := .bool (!decide (x = y))) (hy := fun v hv => by (unfold Oper.quietAt; rw [exec_cmp .neq 46 _ _ _ rfl (kcs x).toArray (kcs y).toArray (.bool (!decide (x = y))) rfl rfl (by kernel_rfl) (neq_kid x y XO.out YO.out)]; go_simp)) (h := ?_)
            refine Wq.mk (wpQuiet_nil ?_)
            intro w9 hw9
            have K9 := Lib.hid (KP.out.trans hw9)
            clear hw9
            by_cases hxy : x = y
            · have dd : decide (x = y) = true := decide_eq_true hxy
              have HXY := Lib.hid hxy
              rw [dd]
              clear hxy dd
              go_wp2_with fail
              go_roundw
              case rel =>
                refine ⟨k + 1, by omega, by go_num, ?_, K9.out⟩
                have e1 := HXA.out
                have e2 := HYB.out
                rw [List.getElem?_eq_getElem hlt] at e1
                rw [List.getElem?_eq_getElem (by have := H3.out; omega)] at e2
                cases e1
                cases e2
                rw [take_snoc _ _ hlt, take_snoc _ _ (by have := H3.out; omega), HEQ.out, HXY.out]
              case measure => simp [Go.RowKit.intOf]; omega
            · have dd : decide (x = y) = false := decide_eq_false hxy
              have HD : Hid (decide (a = b) = false) := Lib.hid (decide_eq_false fun e => hxy (by
                have e1 := HXA.out
                rw [e, HYB.out] at e1
                cases e1
                rfl))
              rw [dd]
              clear hxy dd
              go_wp2_with fail
              go_ret
              rw [HD.out]
              exact ⟨rfl, K0.out.trans K9.out⟩
          · have HD : Hid (decide (a = b) = true) := Lib.hid (decide_eq_true (Ck.ext' H1.out H2.out (by
              have := HEQ.out
              rwa [List.take_of_length_le (by omega), List.take_of_length_le (by have := H3.out; omega)] at this)))
            clear hka hkb z2
            go_wp2_with fail
            go_ret
            rw [HD.out]
            exact ⟨rfl, K0.out.trans KP.out⟩
      · have HD := Lib.hid (same_len h3)
        have d3 : ((a.kids.length : Int) != (b.kids.length : Int)) = true := by simp; omega
        have d3' : (a.kids.length != b.kids.length) = true := by simp; omega
        clear h3
        go_enter Try.func8, Try.ntmps8
        go_upto_region 1 with fail
        rw [← HW.out]
        go_wp2_with fail
        go_ret
        rw [HD.out]
        exact ⟨rfl, K0.out⟩
    · have HD := Lib.hid (same_dat h2)
      have d2 : (a.data.toList != b.data.toList) = true := by rw [bne, bytes_ne h2]; rfl
      have d2' : (a.data.toList == b.data.toList) = false := bytes_ne h2
      clear h2
      go_enter Try.func8, Try.ntmps8
      go_upto_region 1 with fail
      rw [← HW.out]
      go_wp2_with fail
      go_ret
      rw [HD.out]
      exact ⟨rfl, K0.out⟩
  · have HD := Lib.hid (same_knd h1)
    have d1 : ((a.kind : Int) != (b.kind : Int)) = true := by simp; omega
    have d1' : (a.kind != b.kind) = true := by simp; omega
    clear h1
    go_enter Try.func8, Try.ntmps8
    go_upto_region 1 with fail
    rw [← HW.out]
    go_wp2_with fail
    go_ret
    rw [HD.out]
    exact ⟨rfl, K0.out⟩
end Go.Proofs.Ytoonihhjdmkflaa
