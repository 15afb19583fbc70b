/- ChunkTakes returns true, whatever the text. No condition. -/
import Derived.Test.YtoonihhjdmkflaaRfTake
import Derived.Test.YtoonihhjdmkflaaChWake
import Derived.Test.YtoonihhjdmkflaaChOf
import Derived.Lib.ConvBytes
namespace Go.Proofs.Ytoonihhjdmkflaa
open Go.RowKit

theorem bytes_made (w : World) (l : List UInt8) : ∃ W c, (convert 9 29 (.string ⟨l.toArray⟩)).run Try.prog w = .ok (.slice (some ⟨w.heap.size, 0, none⟩) l.length c) W ∧ Rd W (some ⟨w.heap.size, 0, none⟩) l ∧ Kp (fun _ => False) w W := by
  have h := Lib.run_convert_string_bytes (P := Try.prog) w 9 29 5 ⟨l.toArray⟩ Try.underlying9 Try.underlying29 Try.underlying5
  rw [rsize] at h
  refine ⟨_, _, h, .inr ⟨_, 0, rfl, fun j u hu => ?_⟩, ?_⟩
  · have hj : j < l.length := (List.getElem?_eq_some_iff.1 hu).1
    rw [Nat.zero_add, Lib.bytesWorld_cell _ _ _ _ (by rw [rsize]; exact hj)]
    simp [List.getD, hu]
  · exact ⟨rfl, rfl, rfl, by rw [Lib.bytesWorld_size]; omega, fun k hk _ => Lib.bytesWorld_at_old _ _ _ _ hk⟩
theorem wpList_bytes {ops : Array Oper} {rest : List Oper} {o : Oper} {a : Act} {w : World} {Q : Exit → Act → World → Prop} (hgd : o.guard = none) (x : Operand) (ho : o.op = .convert 9 29 x) (l : List UInt8) (hx : a.eval x = .string ⟨l.toArray⟩)
    (h : ∀ W g c, Rd W (some ⟨g, 0, none⟩) l → Kp (fun _ => False) w W → wpList Try.prog ops Q rest (a.put o.dst (.slice (some ⟨g, 0, none⟩) l.length c)) W) : wpList Try.prog ops Q (o :: rest) a w := by
  obtain ⟨W, c, h1, h2, h3⟩ := bytes_made w l
  refine wpList_plain hgd fun K hK => ?_
  unfold Oper.wp execOp
  simp only [ho, hx, Sem.run_bind, h1, Result.andThen_ok, Sem.run_pure]
  exact hK _ _ (h W _ c h2 h3)
set_option maxRecDepth 100000 in
set_option maxHeartbeats 4000000 in
theorem takes_any (l : List UInt8) (w : World) :
    Calls Try.prog 3 #[.string ⟨l.toArray⟩] w fun e w' => e = .returned (.bool true) ∧ Kp (fun _ => False) w w' := by
  obtain ⟨n, hn⟩ : ∃ n, n = l.length := ⟨_, rfl⟩
  have hsz : (⟨l.toArray⟩ : ByteArray).size = n := by rw [rsize, hn]
  have HN := Lib.hid hn
  clear hn
  by_cases h6 : 600 < n
  · have hd : (600 : Int) < (n : Int) := by omega
    clear h6
    go_enter Try.func3, Try.ntmps3
    go_wp2_with fail
    refine (wakes_true _).mono ?_
    rintro e w1 ⟨rfl, kw⟩
    have KW := Lib.hid kw
    clear kw hsz hd
    go_wp2_with fail
    go_ret
    exact ⟨rfl, KW.out⟩
  · have hd : ¬ (600 : Int) < (n : Int) := by omega
    have H6 : Hid (l.length ≤ 600) := Lib.hid (by have := HN.out; omega)
    clear h6
    go_enter Try.func3, Try.ntmps3
    go_wp2_with (first | (refine wpList_bytes rfl (.tmp 12) rfl l rfl ?_; intro w1 g1 c1 hr1 hk1; have R1 := Lib.hid hr1; have K1 := Lib.hid hk1; clear hr1 hk1 hsz hd) | fail)
    refine (take_any (some ⟨g1, 0, none⟩) l.length c1 l _ rfl R1.out (by have := H6.out; omega)).mono ?_
    rintro e w2 ⟨A2, n2, rfl, hck, hk⟩
    have h1000 : (takeC l).1.kids.length ≤ 6 := by
      rcases takeC_cases l with h | ⟨c, h, hm, _, _, _⟩
      · rw [h]; simp [ck0]
      · rw [h]
        rcases may_cases hm with ⟨_, h2, _⟩ | ⟨_, _, _, h3, _⟩
        · dsimp only; rw [h2]; simp
        · exact h3
    obtain ⟨c, hc⟩ : ∃ c, c = (takeC l).1 := ⟨_, rfl⟩
    obtain ⟨er, her⟩ : ∃ er, er = (takeC l).2 := ⟨_, rfl⟩
    rw [← hc] at hck h1000
    rw [← hc, ← her]
    have C2 := Lib.hid hck
    have K2 := Lib.hid (K1.out.trans hk)
    have HC := Lib.hid hc
    have HER := Lib.hid her
    have H1000 := Lib.hid h1000
    clear hck hk hc her h1000
    go_upto_region 4 with (first | (refine wpList_new rfl rfl 25 rfl (.tmp 3) (.tmp 15) rfl zCk (ccs c A2 n2).toList rfl (fun _ => rfl) (fun _ => rfl) (ccs_one _ _ _) ?_; intro w3 g3 hg3 hb3 hk3; have C3 := Lib.hid (C2.out.still hk3); have K3 := Lib.hid (K2.out.trans hk3); have B3 := Lib.hid hb3; clear hk3 hg3 hb3) | fail)
    go_wp2_with fail
    refine (rtake_any l _ H6.out).mono ?_
    rintro e w4 ⟨A4, n4, rfl, hck, hk⟩
    rw [← HC.out] at hck
    rw [← HC.out, ← HER.out]
    have C4 := Lib.hid hck
    have C34 := Lib.hid (C3.out.still hk)
    have B34 := Lib.hid (B3.out.kp hk (fun e => e))
    have K4 := Lib.hid (K3.out.trans hk)
    clear hck hk
    go_upto_region 5 with (first | (refine wpList_new rfl rfl 32 rfl (.tmp 5) (.tmp 20) rfl zRCk (ccs c A4 n4).toList rfl (fun _ => rfl) (fun _ => rfl) (ccs_one _ _ _) ?_; intro w5 g5 hg5 hb5 hk5; have C5 := Lib.hid (C4.out.still hk5); have C35 := Lib.hid (C34.out.still hk5); have B35 := Lib.hid (B34.out.kp hk5 (fun e => e)); have K5 := Lib.hid (K4.out.trans hk5); have B5 := Lib.hid hb5; clear hk5 hg5 hb5) | fail)
    refine wp_region_held_drew (S := fun v => Kp (fun _ => False) w5 v) (by kernel_rfl) ((Kp.refl _ w5).drew) (fun hHeld => ?_)
    refine tk 0 (hy := fun v hv => nexec_load 25 (.tmp 3) rfl g3 0 rfl (ccs c A2 n2).toList _ (Box.range (B35.out.kp hv (fun e => e))) Try.underlying25 rfl (by kernel_rfl)) (h := ?_)
    refine tk 1 (hy := fun v hv => nexec_load 32 (.tmp 5) rfl g5 0 rfl (ccs c A4 n4).toList _ (Box.range (B5.out.kp hv (fun e => e))) Try.underlying32 rfl (by kernel_rfl)) (h := ?_)
    refine rd 2 (h := fun K hK => ?_)
    rw [if_pos (by rfl)]
    go_simp
    refine (of_ck c A4 n4 _ (C5.out.still (Kp.refl _ w5).drew) (by have := H1000.out; omega)).mono ?_
    rintro e w6 ⟨A6, n6, rfl, hck, hk⟩
    have C6 := Lib.hid hck
    have K6 := Lib.hid ((Kp.refl (fun _ => False) w5).drew.trans hk)
    clear hck hk
    go_wp2_with fail
    refine hK.out _ _ (K6.out) (fun hHeld1 => ?_)
    clear hK K
    try simp only [Act.put, List.setIfInBounds_toArray, List.set_cons_zero, List.set_cons_succ]
    refine rd 3 (h := fun K hK => ?_)
    rw [if_pos (by rfl)]
    go_simp
    refine (same_any c c A2 A6 n2 n6 _ (C35.out.still K6.out) C6.out).mono ?_
    rintro e w7 ⟨rfl, hk⟩
    rw [show decide (c = c) = true from by simp]
    have K7 := Lib.hid (K6.out.trans hk)
    clear hk
    go_wp2_with fail
    refine hK.out _ _ (K7.out) (fun hHeld2 => ?_)
    clear hK K
    try simp only [Act.put, List.setIfInBounds_toArray, List.set_cons_zero, List.set_cons_succ]
    refine tk 4 (h := ?_)
    refine tk 5 (h := ?_)
    refine tk 6 (h := ?_)
    refine tk 7 (h := ?_)
    refine tk 8 (h := ?_)
    refine tk 9 (h := ?_)
    refine rd 10 (h := fun K hK => ?_)
    rw [if_pos (by rfl)]
    go_simp
    refine (wakes_true _).mono ?_
    rintro e w8 ⟨rfl, hk⟩
    have K8 := Lib.hid (K7.out.trans hk)
    clear hk
    go_wp2_with fail
    refine hK.out _ _ (K8.out) (fun hHeld3 => ?_)
    clear hK K
    try simp only [Act.put, List.setIfInBounds_toArray, List.set_cons_zero, List.set_cons_succ]
    refine tk 11 (h := ?_)
    refine tk 12 (h := ?_)
    refine wpAnyH_done (by kernel_rfl) ?_ _
    go_wp2_with fail
    go_ret
    exact ⟨rfl, K5.out.trans K8.out⟩
end Go.Proofs.Ytoonihhjdmkflaa
