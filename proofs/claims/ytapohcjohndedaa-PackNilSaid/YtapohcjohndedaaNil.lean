/- PackNil: of no packer and of no opener come nothing and ErrNil, for every number and every text; nothing that was there is turned. No condition. -/
import Derived.Test.YtapohcjohndedaaWakes
namespace Go.Proofs.Ytapohcjohndedaa
open Go.RowKit

theorem hash_eq_zero (w : World) : (Op.equalIn 10000 31 (.agg (bcs zeros32).toArray) (.agg #[Value.int IntKind.u8 0, Value.int IntKind.u8 0, Value.int IntKind.u8 0, Value.int IntKind.u8 0, Value.int IntKind.u8 0, Value.int IntKind.u8 0, Value.int IntKind.u8 0, Value.int IntKind.u8 0, Value.int IntKind.u8 0, Value.int IntKind.u8 0, Value.int IntKind.u8 0, Value.int IntKind.u8 0, Value.int IntKind.u8 0, Value.int IntKind.u8 0, Value.int IntKind.u8 0, Value.int IntKind.u8 0, Value.int IntKind.u8 0, Value.int IntKind.u8 0, Value.int IntKind.u8 0, Value.int IntKind.u8 0, Value.int IntKind.u8 0, Value.int IntKind.u8 0, Value.int IntKind.u8 0, Value.int IntKind.u8 0, Value.int IntKind.u8 0, Value.int IntKind.u8 0, Value.int IntKind.u8 0, Value.int IntKind.u8 0, Value.int IntKind.u8 0, Value.int IntKind.u8 0, Value.int IntKind.u8 0, Value.int IntKind.u8 0])).run Try.prog w = .ok true w := by kernel_rfl

set_option maxHeartbeats 1000000 in
theorem nil_long (n : Int) (s : ByteArray) (w : World) (hs : 400 < s.size) :
    Calls Try.prog 4 #[.int .i64 n, .string s] w fun e w' => e = .returned (.bool true) ∧ Kp (fun _ => False) w w' := by
  go_enter Try.func4, Try.ntmps4
  go_wp2_with fail
  refine (wakes_true w).mono ?_
  rintro e w1 ⟨rfl, k1⟩
  have K1 := Lib.hid k1
  clear k1
  go_wp2_with fail
  go_ret
  exact ⟨rfl, K1.out⟩

set_option maxHeartbeats 2000000 in
theorem nil_short (n : Int) (s : ByteArray) (w : World) (hs : s.size ≤ 400) :
    Calls Try.prog 4 #[.int .i64 n, .string s] w fun e w' => e = .returned (.bool true) ∧ Kp (fun _ => False) w w' := by
  obtain ⟨B, hB⟩ : ∃ B, B = w.heap.size := ⟨_, rfl⟩
  have HB := Lib.hid hB
  clear hB
  obtain ⟨p, hp⟩ : ∃ p, p = Value.pointer none := ⟨_, rfl⟩
  have h0 : Pk (fun k => B ≤ k) w p [] 1 := ⟨fun _ => rfl, .inl ⟨hp, rfl⟩⟩
  have HP := Lib.hid hp
  have H0 := Lib.hid h0
  clear hp h0
  go_enter Try.func4, Try.ntmps4
  go_wp2_with fail
  rw [← HP.out]
  refine (put_fine1 H0.out (fun k hk => by rw [HB.out]; exact hk) 1 (by decide) (by decide)).mono ?_
  rintro e w1 ⟨rfl, h1, k1⟩
  have H1 : Hid (Pk (fun k => B ≤ k) w1 p [] 1) := h1
  have K1 := Lib.hid k1
  clear h1 k1
  go_wp2_with fail
  rw [zero_bcs]
  refine (hash_any H1.out (fun k hk => by have := K1.out.size; rw [← HB.out] at this; omega) zeros32 rfl (by decide)).mono ?_
  rintro e w2 ⟨rfl, h2, k2⟩
  have H2 : Hid (Pk (fun k => B ≤ k) w2 p [] 1) := h2
  have K2 := Lib.hid (K1.out.trans k2)
  clear h2 k2
  go_wp2_with fail
  refine (text_any H2.out (fun k hk => by have := K2.out.size; rw [← HB.out] at this; omega) s (by simp; omega)).mono ?_
  rintro e w3 ⟨rfl, h3, k3⟩
  have H3 : Hid (Pk (fun k => B ≤ k) w3 p [] 1) := h3
  have K3 := Lib.hid (K2.out.trans k3)
  clear h3 k3
  go_wp2_with fail
  refine (name_nil H3.out (fun k hk => by have := K3.out.size; rw [← HB.out] at this; omega) s hs).mono ?_
  rintro e w4 ⟨rfl, h4, k4⟩
  have H4 := Lib.hid h4
  have K4 := Lib.hid (K3.out.trans k4)
  clear h4 k4
  go_wp2_with fail
  refine (bytes_any H4.out (by decide)).mono ?_
  rintro e w5 ⟨A, c, rfl, _, _, _, _, k5⟩
  have K5 := Lib.hid (K4.out.trans (k5.mono (fun _ _ h => h.elim)))
  clear k5
  go_wp2_with fail
  rw [HP.out]
  refine (take_nil 1 w5).mono ?_
  rintro e w6 ⟨rfl, k6⟩
  have K6 := Lib.hid (K5.out.trans (k6.mono (fun _ _ h => h.elim)))
  clear k6
  go_wp2_with fail
  refine (ohash_nil w6).mono ?_
  rintro e w7 ⟨rfl, k7⟩
  have K7 := Lib.hid (K6.out.trans (k7.mono (fun _ _ h => h.elim)))
  clear k7
  have hz2 := hash_eq_zero w7
  go_wp2_with fail
  refine (otext_nil n w7).mono ?_
  rintro e w8 ⟨rfl, k8⟩
  have K8 := Lib.hid (K7.out.trans (k8.mono (fun _ _ h => h.elim)))
  clear k8
  go_wp2_with fail
  refine (oname_nil w8).mono ?_
  rintro e w9 ⟨rfl, k9⟩
  have K9 := Lib.hid (K8.out.trans (k9.mono (fun _ _ h => h.elim)))
  clear k9
  go_wp2_with fail
  refine (left_nil w9).mono ?_
  rintro e w10 ⟨rfl, rfl⟩
  go_wp2_with fail
  refine (err_nil w9).mono ?_
  rintro e w11 ⟨rfl, k11⟩
  have K11 := Lib.hid (K9.out.trans (k11.mono (fun _ _ h => h.elim)))
  clear k11
  go_wp2_with fail
  refine (end_nil w11).mono ?_
  rintro e w12 ⟨rfl, k12⟩
  have K12 := Lib.hid (K11.out.trans (k12.mono (fun _ _ h => h.elim)))
  clear k12
  go_wp2_with fail
  refine (wakes_true w12).mono ?_
  rintro e w13 ⟨rfl, k13⟩
  have K13 := Lib.hid (K12.out.trans (k13.mono (fun _ _ h => h.elim)))
  clear k13
  go_wp2_with fail
  go_ret
  refine ⟨rfl, ?_⟩
  have K14 := K13.out
  rw [HB.out] at K14
  exact K14.fresh _

end Go.Proofs.Ytapohcjohndedaa
