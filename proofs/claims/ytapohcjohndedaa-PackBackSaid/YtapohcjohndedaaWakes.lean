/- What the laws of layer 1 ask each time besides: known bytes: it is true, and nothing that was there is turned. No condition. -/
import Derived.Test.YtapohcjohndedaaPkB
namespace Go.Proofs.Ytapohcjohndedaa
open Go.RowKit

set_option maxHeartbeats 1000000 in
theorem wakes_true (w : World) :
    Calls Try.prog 7 #[] w fun e w' => e = .returned (.bool true) ∧ Kp (fun _ => False) w w' := by
  obtain ⟨B, hB⟩ : ∃ B, B = w.heap.size := ⟨_, rfl⟩
  have HB := Lib.hid hB
  clear hB
  go_enter Try.func7, Try.ntmps7
  go_wp2_with fail
  refine (new_any (fun k => B ≤ k) w (by rw [HB.out]; exact Nat.le_refl _)).mono ?_
  rintro e w1 ⟨rfl, hp, hk⟩
  obtain ⟨p, hpp⟩ : ∃ p, p = Value.pointer (some ⟨w.heap.size, 0, none⟩) := ⟨_, rfl⟩
  have h1 : Pk (fun k => B ≤ k) w1 p [] 0 := ⟨fun h => absurd rfl h, .inr ⟨_, hpp, hp⟩⟩
  have k1 : Kp (fun k => B ≤ k) w w1 := hk.mono (fun _ _ h => h.elim)
  rw [← hpp]
  have H1 := Lib.hid h1
  have K1 := Lib.hid k1
  clear hp hk h1 k1 hpp
  go_wp2_with fail
  refine (put_fine2 H1.out (fun k hk => by have := K1.out.size; rw [← HB.out] at this; omega) 258 (by omega) (by decide)).mono ?_
  rintro e w2 ⟨rfl, h2, k2⟩
  have H2 := Lib.hid h2
  have K2 := Lib.hid (K1.out.trans k2)
  clear h2 k2 H1 K1
  go_wp2_with fail
  refine (name_fine H2.out (fun k hk => by have := K2.out.size; rw [← HB.out] at this; omega) _ (by decide) (by decide)).mono ?_
  rintro e w3 ⟨rfl, h3, k3⟩
  have h3' : Pk (fun k => B ≤ k) w3 p [1, 2, 2, 97, 98] 0 := h3
  have H3 := Lib.hid h3'
  have K3 := Lib.hid (K2.out.trans k3)
  clear h3 h3' k3 H2 K2
  go_wp2_with fail
  refine (bytes_any H3.out (by decide)).mono ?_
  rintro e w4 ⟨A, c, rfl, hc1, hc2, hr, hA, k4⟩
  have K4 := Lib.hid (K3.out.trans (k4.mono (fun _ _ h => h.elim)))
  have Hr := Lib.hid hr
  clear hr hA k4 H3 K3
  go_wp2_with fail
  refine (of_any (fun k => w4.heap.size ≤ k) w4 (fun k hk => hk) A 5 c [1, 2, 2, 97, 98] rfl Hr.out (by decide)).mono ?_
  rintro e w5 ⟨bo, rfl, hbo, ho, k5⟩
  have Ho := Lib.hid ho
  have K5 : Hid (Kp (fun k => w4.heap.size ≤ k) w4 w5) := k5.mono (fun _ _ h => h.elim)
  clear ho k5
  go_wp2_with fail
  refine (take_fine Ho.out 2 rfl (by decide)).mono ?_
  rintro e w6 ⟨rfl, ho, k6⟩
  have Ho6 := Lib.hid ho
  have K6 : Hid (Kp (fun k => w4.heap.size ≤ k) w4 w6) := K5.out.trans (k6.mono fun k _ e => by rw [e]; exact hbo)
  clear ho k6 K5 Ho
  go_wp2_with fail
  refine (oname_fine (x := 2) (l := [97, 98]) Ho6.out (by decide)).mono ?_
  rintro e w7 ⟨rfl, ho, k7⟩
  have Ho7 := Lib.hid ho.old
  have K7 : Hid (Kp (fun k => w4.heap.size ≤ k) w4 w7) := K6.out.trans (k7.mono fun k _ e => by rw [e]; exact hbo)
  clear ho k7 K6 Ho6
  go_wp2_with fail
  refine (new_any (fun k => w7.heap.size ≤ k) w7 (Nat.le_refl _)).mono ?_
  rintro e w8 ⟨rfl, hp, hk⟩
  obtain ⟨q, hqq⟩ : ∃ q, q = Value.pointer (some ⟨w7.heap.size, 0, none⟩) := ⟨_, rfl⟩
  have h8 : Pk (fun k => w7.heap.size ≤ k) w8 q [] 0 := ⟨fun h => absurd rfl h, .inr ⟨_, hqq, hp⟩⟩
  rw [← hqq]
  have H8 := Lib.hid h8
  have K8 : Hid (Kp (fun k => w7.heap.size ≤ k) w7 w8) := hk.mono (fun _ _ h => h.elim)
  clear hp hk h8 hqq
  go_wp2_with fail
  refine (put_big1 H8.out 256 (by decide)).mono ?_
  rintro e w9 ⟨rfl, h9, k9⟩
  have H9 := Lib.hid h9
  have K9 : Hid (Kp (fun k => w7.heap.size ≤ k) w7 w9) := K8.out.trans k9
  clear h9 k9 H8 K8
  go_wp2_with fail
  refine (bytes_any H9.out (by decide)).mono ?_
  rintro e w10 ⟨A2, c2, rfl, _, _, _, _, k10⟩
  have K10 : Hid (Kp (fun k => w7.heap.size ≤ k) w7 w10) := K9.out.trans (k10.mono (fun _ _ h => h.elim))
  clear k10 H9 K9
  have K11 : Hid (Kp (fun k => w4.heap.size ≤ k) w4 w10) := K7.out.trans (K10.out.mono fun k _ h => Nat.le_trans K7.out.size h)
  have hr10 : Rd w10 A [1, 2, 2, 97, 98] := Hr.out.kp K11.out (by
    intro a ha
    obtain ⟨a', e, hlt⟩ := Hr.out.lt (by simp)
    rw [ha] at e
    cases e
    omega)
  have hnum : ((numN [1, 2] : Nat) : Int) = 258 := by decide
  have herr : errS 0 6 = 6 := rfl
  have hcv : (convert 33 9 (.slice A 5 c)).run Try.prog w10 = .ok (.string ⟨#[1, 2, 2, 97, 98]⟩) w10 := hr10.text 33 9 5 c Try.underlying33 Try.underlying5 Try.underlying9
  have ho10 : Opn _ w10 bo [] none := Ho7.out.kp K10.out (fun k hk => by have := hk.2; omega)
  have Ho10 := Lib.hid ho10
  clear hr10 ho10
  go_wp2_with fail
  refine (end_fine Ho10.out).mono ?_
  rintro e w11 ⟨rfl, _, k11⟩
  have K12 := Lib.hid k11
  clear k11
  go_wp2_with fail
  go_ret
  refine ⟨rfl, ?_⟩
  have K13 : Kp (fun k => B ≤ k) w w11 := (K4.out.trans_new K11.out (fun k hk => .inr (by have := K4.out.size; rw [← HB.out] at this; omega))).trans_new K12.out (fun k hk => .inr (by have := K4.out.size; rw [← HB.out] at this; omega))
  rw [HB.out] at K13
  exact K13.fresh _

end Go.Proofs.Ytapohcjohndedaa
