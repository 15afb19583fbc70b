/- A chunk's bytes, in the document's own words. No condition. -/
import Derived.Test.YtoonihhjdmkflaaRfHt
import Derived.Test.YtoonihhjdmkflaaChOf
namespace Go.Proofs.Ytoonihhjdmkflaa
open Go.RowKit

theorem sadd (L M : List UInt8) (h : L.length ≤ 4000) (h' : M.length ≤ 4000) (w : World) : (Op.stringOp .add (⟨L.toArray⟩ : ByteArray) (⟨M.toArray⟩ : ByteArray)).run Try.prog w = .ok (.string ⟨(L ++ M).toArray⟩) w := run_string_add_lists w L M (by omega) (by omega)
theorem sadd_t (L : List UInt8) (s : ByteArray) (h : L.length ≤ 4000) (h' : s.size ≤ 4000) (w : World) : (Op.stringOp .add (⟨L.toArray⟩ : ByteArray) s).run Try.prog w = .ok (.string ⟨(L ++ byt s).toArray⟩) w := by
  have := sadd L (byt s) h (by rw [byt_len]; exact h') w
  rwa [mk_byt] at this
theorem rd_range {w : World} {b o : Nat} {l : List UInt8} (h : w.rangeAt b o (bcs l)) : Rd w (some ⟨b, o, none⟩) l := .inr ⟨b, o, rfl, fun j u hu => h j _ (by rw [bcs_get, hu]; rfl)⟩
set_option maxRecDepth 100000 in
set_option maxHeartbeats 8000000 in
theorem rput_any (c : Ck) (A : Option Addr) (n : Nat) (w : World) (h : CkR w c A n) (hm : mayB c = true) :
    Calls Try.prog 21 #[.agg (ccs c A n)] w fun e w' => e = .returned (.string ⟨(putL c).toArray⟩) ∧ Kp (fun _ => False) w w' := by
  obtain ⟨W, hW, b0, k0⟩ : ∃ W, W = w.alloc (.cells (ccs c A n) 32) ∧ Box W w.heap.size 32 (ccs c A n) ∧ Kp (fun _ => False) w W := ⟨_, rfl, Box.new w _ _, (Kp.refl _ w).alloc _⟩
  have HW := Lib.hid hW
  have K0 := Lib.hid k0
  have HF : Hid (∀ v, Kp (fun _ => False) W v → CkR v c A n ∧ v.cell? ⟨w.heap.size, 0, none⟩ = some (.int .u8 c.kind) ∧ v.cell? ⟨w.heap.size, 1, none⟩ = some (.string c.data) ∧ v.cell? ⟨w.heap.size, 2, none⟩ = some (.slice A c.kids.length n)) := Lib.hid fun v hv =>
    ⟨h.still (k0.trans hv), (b0.kp hv (fun h => h)).cell 0, (b0.kp hv (fun h => h)).cell 1, (b0.kp hv (fun h => h)).cell 2⟩
  have hkind := h.ok.1
  have HO := Lib.hid h.ok
  clear hW b0 k0 h
  obtain ⟨_, y0, y1, y2⟩ := HF.out W (Kp.refl _ _)
  rcases may_cases hm with ⟨h1, h2, h3⟩ | ⟨h1, h2, h3, h4, _, h6⟩
  · have HP : Hid (([1] : List UInt8) ++ byt c.data = putL c) := Lib.hid (by
      have : ldB c.kind = false := by simp [ldB, h1]
      simp [putL, cnL, h2, ksL, h1]
      rfl)
    have d1 : ((c.kind : Int) == 1) = true := by simp; omega
    have ha := sadd_t [1] c.data (by simp) (by omega)
    rw [show (⟨([1] : List UInt8).toArray⟩ : ByteArray) = ⟨#[1]⟩ from rfl, HP.out] at ha
    clear h1 h2 hm h3
    go_enter Try.func21, Try.ntmps21
    go_upto_region 1 with fail
    rw [← HW.out]
    go_wp2_with fail
    go_ret
    exact ⟨rfl, K0.out⟩
  · have HLD := Lib.hid h1
    have HNM : Hid (∀ k ∈ c.kids, k.name.size ≤ 16) := Lib.hid fun k hk => (h6 k hk).2
    have HD := Lib.hid h3
    have d1 : ((c.kind : Int) == 1) = false := by simp; omega
    have hwk : IntKind.u64.wrap (c.kind : Int) = (c.kind : Int) := IntWalk.u64_in _ (by omega)
    have hwn : IntKind.u64.wrap (c.kids.length : Int) = (c.kids.length : Int) := IntWalk.u64_in _ (by omega)
    have ha := sadd (beN 1 c.kind) (beN 1 c.kids.length) (by rw [beN_length]; omega) (by rw [beN_length]; omega)
    have HCN : Hid (beN 1 c.kind ++ beN 1 c.kids.length = cnL c) := Lib.hid (by unfold cnL; rw [h1, if_pos rfl])
    rw [HCN.out] at ha
    have HPL : Hid (cnL c ++ ksL c.kind c.kids = putL c) := Lib.hid (by unfold putL; rw [h3]; simp [byt])
    clear h1 h2 h3 h6 hm
    go_enter Try.func21, Try.ntmps21
    go_upto_region 1 with fail
    rw [← HW.out]
    go_upto_region 3 with fail
    clear y0 y1 y2 d1
    refine wp_region_quiet (C := fun v => Kp (fun _ => False) (W) v) (by kernel_rfl) (by kernel_rfl) ((Kp.refl _ _).drew) (Wq.out ?_)
    refine qtk (h := ?_)
    refine qtk (hy := fun v hv => by (obtain ⟨_, y0, _, y2⟩ := HF.out v hv; unfold Oper.quietAt; go_simp; with_reducible rfl)) (h := ?_)
    refine qtk (h := ?_)
    refine qtk (hy := fun v hv => by (unfold Oper.quietAt; go_simp; exact (rnum1 c.kind v (by omega)).mono (fun e w1 h => ⟨h.1, hv.trans h.2⟩))) (h := ?_)
    refine qtk (h := ?_)
    refine qtk (hy := fun v hv => by (obtain ⟨_, y0, _, y2⟩ := HF.out v hv; unfold Oper.quietAt; go_simp; with_reducible rfl)) (h := ?_)
    refine qtk (h := ?_)
    refine qtk (h := ?_)
    refine qtk (hy := fun v hv => by (unfold Oper.quietAt; go_simp; exact (rnum1 c.kids.length v (by omega)).mono (fun e w1 h => ⟨h.1, hv.trans h.2⟩))) (h := ?_)
    refine qtk (h := ?_)
    refine qtk (h := ?_)
    refine Wq.mk (wpQuiet_nil ?_)
    intro w3 hw9
    have K3 := Lib.hid ((Kp.refl (fun _ => False) W).trans hw9)
    clear hw9
    clear hwk hwn ha
    go_upto_region 5 with fail
    go_loopw [3, 4] (fun s3 s4 wr => ∃ k : Nat, k ≤ c.kids.length ∧ s4 = .int .i64 k ∧ s3 = .string ⟨(cnL c ++ ksL c.kind (c.kids.take k)).toArray⟩ ∧ Kp (fun _ => False) W wr) (fun _ s4 _ => c.kids.length - (Go.RowKit.intOf s4).toNat)
    case atStart => exact ⟨0, Nat.zero_le _, rfl, by simp [ksL], K3.out⟩
    case round =>
      obtain ⟨k, hk, rfl, rfl, hkp⟩ := hrel
      have KP := Lib.hid hkp
      clear hkp
      have hcl : (cnL c ++ ksL c.kind (c.kids.take k)).length ≤ 1000 := by
        have h1 := cnL_len c
        have h2 := ksL_len (kind := c.kind) (l := c.kids.take k) fun x hx => ⟨HO.out.2 x (List.mem_of_mem_take hx), HNM.out x (List.mem_of_mem_take hx)⟩
        rw [List.length_take] at h2
        rw [List.length_append]
        omega
      obtain ⟨L, hL⟩ : ∃ L, L = cnL c ++ ksL c.kind (c.kids.take k) := ⟨_, rfl⟩
      rw [← hL] at hcl ⊢
      have HLL := Lib.hid hL
      clear hL
      obtain ⟨hck, y0, y1, y2⟩ := HF.out wr KP.out
      by_cases hlt : k < c.kids.length
      · obtain ⟨x, hx⟩ : ∃ x, c.kids[k]? = some x := ⟨_, List.getElem?_eq_getElem hlt⟩
        obtain ⟨b, o, hA, hrg⟩ := hck.k.at hx
        have XO := Lib.hid (hck.ok.2 x (List.mem_of_getElem? hx))
        have hnm := HNM.out x (List.mem_of_getElem? hx)
        obtain ⟨p, hp⟩ : ∃ p, o + k * 36 = p := ⟨_, rfl⟩
        rw [show o + 36 * k = p by omega] at hrg
        have RG := Lib.hid hrg
        have HN : Hid (cnL c ++ ksL c.kind (c.kids.take (k + 1)) = L ++ kdL c.kind x) := Lib.hid (by rw [ksL_take hx, HLL.out, List.append_assoc])
        have HHL := Lib.hid XO.out.1
        rw [hA] at y2
        clear hrg hx hck hA
        go_upto_region 8 with (first | (refine wpList_load_mid rfl 58 (.tmp 32) rfl b p rfl (kcs x) _ RG.out Try.underlying58 rfl (by rw [kcs_len XO.out]; kernel_rfl) ?_) | (refine wpList_new rfl rfl 58 rfl (.tmp 5) (.tmp 33) rfl zRKid (kcs x) (kcs_len XO.out) (fun _ => rfl) (fun _ => rfl) (kcs_one x) ?_; intro w4 g4 hg4 hb4 hk4; have HB4 := Lib.hid hb4; have K4 := Lib.hid (KP.out.trans hk4); clear hk4 hg4 hb4) | fail)
        clear y0 y1 y2 hp
        have HX : Hid (∀ v, Kp (fun _ => False) w4 v → v.cell? ⟨g4, 0, none⟩ = some (.string x.name) ∧ v.cell? ⟨g4, 1, none⟩ = some (.bool x.dir) ∧ v.cell? ⟨g4, 34, none⟩ = some (.int .u8 x.ht) ∧ v.cell? ⟨g4, 35, none⟩ = some (.int .u32 x.sz) ∧ Rd v (some ⟨g4, 2, none⟩) x.hash) := Lib.hid fun v hv => by
          obtain ⟨u0, u1, u2, u3, u4⟩ := kid_cells (HB4.out.kp hv (fun e => e)).range' XO.out
          simp only [Nat.zero_add] at u0 u1 u2 u3 u4
          exact ⟨u0, u1, u2, u3, rd_range u4⟩
        obtain ⟨_, y0, _, _⟩ := HF.out w4 K4.out
        by_cases h3 : c.kind = 3
        · have d3 : ((c.kind : Int) == 3) = true := by simp; omega
          obtain ⟨L1, hL1⟩ : ∃ L1, L1 = L ++ beN 1 (if x.dir = true then 1 else 0) := ⟨_, rfl⟩
          obtain ⟨L3, hL3⟩ : ∃ L3, L3 = L1 ++ beN 1 x.name.size ++ byt x.name := ⟨_, rfl⟩
          have HN3 : Hid (L ++ kdL c.kind x = L3 ++ x.hash ++ beN 1 x.ht ++ beN 4 x.sz) := Lib.hid (by unfold kdL tlL hdL; rw [if_pos h3, hL3, hL1]; simp)
          have hl1 : L1.length ≤ 1010 := by rw [hL1, List.length_append, beN_length]; omega
          have hl3 : L3.length ≤ 1100 := by rw [hL3, List.length_append, List.length_append, beN_length, byt_len]; omega
          have hws : IntKind.u64.wrap (x.name.size : Int) = (x.name.size : Int) := IntWalk.u64_in _ (by omega)
          have hb1 := sadd L1 (beN 1 x.name.size) (by omega) (by rw [beN_length]; omega)
          have hb2 := sadd_t (L1 ++ beN 1 x.name.size) x.name (by rw [List.length_append, beN_length]; omega) (by omega)
          rw [← hL3] at hb2
          obtain ⟨_, y1, _⟩ := HX.out w4 (Kp.refl _ _)
          clear y1
          have HL1 := Lib.hid hL1
          clear h3 hL1 hL3
          obtain ⟨_, y1, _⟩ := HX.out w4 (Kp.refl _ _)
          rcases hdir : x.dir with _ | _
          all_goals
            rw [hdir] at HL1 y1
            simp only [Bool.false_eq_true, if_false, if_true] at HL1
            have hb0 := sadd L [0] (by omega) (by simp)
            have hb0' := sadd L [1] (by omega) (by simp)
            first | (rw [show L ++ [0] = L1 from HL1.out.symm] at hb0; clear hb0') | (rw [show L ++ [1] = L1 from HL1.out.symm] at hb0'; clear hb0)
            have HDIR := Lib.hid hdir
            clear hdir
            go_upto_region 12 with fail
            first | clear hb0 | clear hb0'
            clear y0 y1 d3
            refine wp_region_quiet (C := fun v => Kp (fun _ => False) (w4) v) (by kernel_rfl) (by kernel_rfl) ((Kp.refl _ _).drew) (Wq.out ?_)
            refine qtk (h := ?_)
            refine qtk (h := ?_)
            refine qtk (hy := fun v hv => by (obtain ⟨u0, u1, u2, u3, u4⟩ := HX.out v hv; unfold Oper.quietAt; go_simp; with_reducible rfl)) (h := ?_)
            refine qtk (h := ?_)
            refine qtk (h := ?_)
            refine qtk (hy := fun v hv => by (unfold Oper.quietAt; go_simp; exact (rnum1 x.name.size v (by omega)).mono (fun e w1 h => ⟨h.1, hv.trans h.2⟩))) (h := ?_)
            refine qtk (h := ?_)
            refine qtk (h := ?_)
            refine qtk (hy := fun v hv => by (obtain ⟨u0, u1, u2, u3, u4⟩ := HX.out v hv; unfold Oper.quietAt; go_simp; with_reducible rfl)) (h := ?_)
            refine qtk (h := ?_)
            refine qtk (h := ?_)
            refine Wq.mk (wpQuiet_nil ?_)
            intro w5 hw9
            have KA := Lib.hid ((Kp.refl (fun _ => False) w4).trans hw9)
            clear hw9
            clear hws hb1 hb2
            have hT := hl3
            have hwh : IntKind.u64.wrap (x.ht : Int) = (x.ht : Int) := IntWalk.u64_in _ (by have := XO.out.2.1; omega)
            have hwz : IntKind.u64.wrap (x.sz : Int) = (x.sz : Int) := IntWalk.u64_in _ (by have := XO.out.2.2; omega)
            obtain ⟨L4, hL4⟩ : ∃ L4, L4 = L3 ++ x.hash := ⟨_, rfl⟩
            obtain ⟨L5, hL5⟩ : ∃ L5, L5 = L4 ++ beN 1 x.ht := ⟨_, rfl⟩
            have hc1 := sadd L3 x.hash (by omega) (by rw [HHL.out]; omega)
            have hl4 : L4.length ≤ 1200 := by rw [hL4, List.length_append, HHL.out]; omega
            have hc2 := sadd L4 (beN 1 x.ht) (by omega) (by rw [beN_length]; omega)
            have hc3 := sadd L5 (beN 4 x.sz) (by rw [hL5, List.length_append, beN_length]; omega) (by rw [beN_length]; omega)
            rw [← hL4] at hc1
            rw [← hL5] at hc2
            rw [show L5 ++ beN 4 x.sz = cnL c ++ ksL c.kind (c.kids.take (k + 1)) from by rw [HN.out, HN3.out, hL5, hL4]] at hc3
            clear hL4 hL5
            go_upto_region 13 with fail
            refine wp_region_quiet (C := fun v => Kp (fun _ => False) (w5) v) (by kernel_rfl) (by kernel_rfl) ((Kp.refl _ _).drew) (Wq.out ?_)
            refine qtk (h := ?_)
            refine qtk (h := ?_)
            refine qtk (h := ?_)
            refine qtk (hy := fun v hv => by (obtain ⟨u0, u1, u2, u3, u4⟩ := HX.out v (KA.out.trans hv); have hcv := u4.text (P := Try.prog) 29 9 5 32 Try.underlying29 Try.underlying5 Try.underlying9; rw [HHL.out] at hcv; unfold Oper.quietAt; go_simp; with_reducible rfl)) (h := ?_)
            refine qtk (h := ?_)
            refine qtk (h := ?_)
            refine qtk (hy := fun v hv => by (obtain ⟨u0, u1, u2, u3, u4⟩ := HX.out v (KA.out.trans hv); unfold Oper.quietAt; go_simp; with_reducible rfl)) (h := ?_)
            refine qtk (h := ?_)
            refine qtk (hy := fun v hv => by (unfold Oper.quietAt; go_simp; exact (rnum1 x.ht v (XO.out.2.1)).mono (fun e w1 h => ⟨h.1, hv.trans h.2⟩))) (h := ?_)
            refine qtk (h := ?_)
            refine qtk (h := ?_)
            refine qtk (hy := fun v hv => by (obtain ⟨u0, u1, u2, u3, u4⟩ := HX.out v (KA.out.trans hv); unfold Oper.quietAt; go_simp; with_reducible rfl)) (h := ?_)
            refine qtk (h := ?_)
            refine qtk (hy := fun v hv => by (unfold Oper.quietAt; go_simp; exact (rnum4 x.sz v (XO.out.2.2)).mono (fun e w1 h => ⟨h.1, hv.trans h.2⟩))) (h := ?_)
            refine qtk (h := ?_)
            refine qtk (h := ?_)
            refine Wq.mk (wpQuiet_nil ?_)
            intro w6 hw9
            have KC := Lib.hid ((K4.out.trans KA.out).trans hw9)
            clear hw9
            clear hwh hwz hc1 hc2 hc3
            go_wp2_with fail
            go_roundw
            case rel => exact ⟨k + 1, by omega, by go_num, rfl, KC.out⟩
            case measure => simp [Go.RowKit.intOf]; omega
        · have d3 : ((c.kind : Int) == 3) = false := by simp; omega
          have HN3 : Hid (L ++ kdL c.kind x = L ++ x.hash ++ beN 1 x.ht ++ beN 4 x.sz) := Lib.hid (by unfold kdL tlL; rw [if_neg h3]; simp)
          clear h3
          obtain ⟨w5, hw5, KA⟩ : ∃ w5, w5 = w4 ∧ Hid (Kp (fun _ => False) w4 w5) := ⟨_, rfl, Lib.hid (Kp.refl _ _)⟩
          subst hw5
          have hwh : IntKind.u64.wrap (x.ht : Int) = (x.ht : Int) := IntWalk.u64_in _ (by have := XO.out.2.1; omega)
          have hwz : IntKind.u64.wrap (x.sz : Int) = (x.sz : Int) := IntWalk.u64_in _ (by have := XO.out.2.2; omega)
          obtain ⟨L4, hL4⟩ : ∃ L4, L4 = L ++ x.hash := ⟨_, rfl⟩
          obtain ⟨L5, hL5⟩ : ∃ L5, L5 = L4 ++ beN 1 x.ht := ⟨_, rfl⟩
          have hc1 := sadd L x.hash (by omega) (by rw [HHL.out]; omega)
          have hl4 : L4.length ≤ 1200 := by rw [hL4, List.length_append, HHL.out]; omega
          have hc2 := sadd L4 (beN 1 x.ht) (by omega) (by rw [beN_length]; omega)
          have hc3 := sadd L5 (beN 4 x.sz) (by rw [hL5, List.length_append, beN_length]; omega) (by rw [beN_length]; omega)
          rw [← hL4] at hc1
          rw [← hL5] at hc2
          rw [show L5 ++ beN 4 x.sz = cnL c ++ ksL c.kind (c.kids.take (k + 1)) from by rw [HN.out, HN3.out, hL5, hL4]] at hc3
          clear hL4 hL5
          go_upto_region 13 with fail
          refine wp_region_quiet (C := fun v => Kp (fun _ => False) (w5) v) (by kernel_rfl) (by kernel_rfl) ((Kp.refl _ _).drew) (Wq.out ?_)
          refine qtk (h := ?_)
          refine qtk (h := ?_)
          refine qtk (h := ?_)
          refine qtk (hy := fun v hv => by (obtain ⟨u0, u1, u2, u3, u4⟩ := HX.out v (KA.out.trans hv); have hcv := u4.text (P := Try.prog) 29 9 5 32 Try.underlying29 Try.underlying5 Try.underlying9; rw [HHL.out] at hcv; unfold Oper.quietAt; go_simp; with_reducible rfl)) (h := ?_)
          refine qtk (h := ?_)
          refine qtk (h := ?_)
          refine qtk (hy := fun v hv => by (obtain ⟨u0, u1, u2, u3, u4⟩ := HX.out v (KA.out.trans hv); unfold Oper.quietAt; go_simp; with_reducible rfl)) (h := ?_)
          refine qtk (h := ?_)
          refine qtk (hy := fun v hv => by (unfold Oper.quietAt; go_simp; exact (rnum1 x.ht v (XO.out.2.1)).mono (fun e w1 h => ⟨h.1, hv.trans h.2⟩))) (h := ?_)
          refine qtk (h := ?_)
          refine qtk (h := ?_)
          refine qtk (hy := fun v hv => by (obtain ⟨u0, u1, u2, u3, u4⟩ := HX.out v (KA.out.trans hv); unfold Oper.quietAt; go_simp; with_reducible rfl)) (h := ?_)
          refine qtk (h := ?_)
          refine qtk (hy := fun v hv => by (unfold Oper.quietAt; go_simp; exact (rnum4 x.sz v (XO.out.2.2)).mono (fun e w1 h => ⟨h.1, hv.trans h.2⟩))) (h := ?_)
          refine qtk (h := ?_)
          refine qtk (h := ?_)
          refine Wq.mk (wpQuiet_nil ?_)
          intro w6 hw9
          have KC := Lib.hid ((K4.out.trans KA.out).trans hw9)
          clear hw9
          clear hwh hwz hc1 hc2 hc3
          go_wp2_with fail
          go_roundw
          case rel => exact ⟨k + 1, by omega, by go_num, rfl, KC.out⟩
          case measure => simp [Go.RowKit.intOf]; omega
      · obtain rfl : k = c.kids.length := by omega
        have HL2 : Hid (L = putL c) := Lib.hid (by rw [HLL.out, List.take_length, HPL.out])
        clear hlt hk hck
        go_wp2_with fail
        go_ret
        rw [HL2.out]
        exact ⟨rfl, K0.out.trans KP.out⟩
end Go.Proofs.Ytoonihhjdmkflaa
