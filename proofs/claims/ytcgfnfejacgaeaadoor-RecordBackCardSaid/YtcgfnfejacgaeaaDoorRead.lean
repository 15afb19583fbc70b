/- What the opener's generic reader answers, at each of its instances and for each of the four readings, in every state. -/
import Derived.Test.YtcgfnfejacgaeaaDoorTell
namespace Go.Proofs.YtcgfnfejacgaeaaDoor
open Go.RowKit

/-- What a read of n bytes gives, and what it leaves: the bytes and the error. -/
def rdS (l : List UInt8) (f : Option Int) (n : Int) : Option (List UInt8) × List UInt8 × Option Int :=
  match f with
  | some e => (none, l, some e)
  | none => if 0 ≤ n ∧ n ≤ l.length then (some (l.take n.toNat), l.drop n.toNat, none) else (none, l, some 3)

theorem rdS_fine (l : List UInt8) (n : Nat) (h : n ≤ l.length) : rdS l none n = (some (l.take n), l.drop n, none) := by
  unfold rdS
  simp only
  rw [if_pos ⟨by omega, by omega⟩, Int.toNat_natCast]
theorem rdS_short (l : List UInt8) (n : Int) (h : n < 0 ∨ (l.length : Int) < n) : rdS l none n = (none, l, some 3) := by
  unfold rdS
  simp only
  rw [if_neg (by omega)]
theorem rdS_failed (l : List UInt8) (e n : Int) : rdS l (some e) n = (none, l, some e) := rfl

set_option maxHeartbeats 400000 in
theorem read_num_fine {G : Nat → Prop} {w : World} {b : Nat} {l : List UInt8} (h : Opn G w b l none) (n : Nat) (hn : n ≤ l.length) (hn8 : n ≤ 8) :
    Calls Tryd.prog 37 #[.pointer (some ⟨b, 0, none⟩), .int .i64 n, .func (Fn.func 38) #[] #[]] w fun e w' => e = .returned (.int .u64 (numN (l.take n))) ∧ Opn G w' b (l.drop n) none ∧ Kp (fun k => k = b) w w' := by
  have hlen : (l.take n).length = n := by simp; omega
  have H := Lib.hid h
  obtain ⟨_, A0, c0, fv, hx, _, _, _, _, h5⟩ := h
  cases h5
  have Hl := Lib.hid hlen
  clear hlen
  go_enter Tryd.func37, Tryd.ntmps37
  go_wp2_with fail
  refine (reader_fine b w _ hx).mono ?_
  rintro e w1 ⟨rfl, rfl⟩
  clear hx
  go_wp2_with fail
  refine (next_fine H.out n hn).mono ?_
  rintro e w1 ⟨A, c, rfl, hc1, hc2, hr, _, ho, hk⟩
  have Hr := Lib.hid hr
  have Ho := Lib.hid ho
  have Hk := Lib.hid hk
  clear hr ho hk
  go_wp2_with fail
  have ht := number_rd A c (l.take n) w1 (by rw [Hl.out]; exact hn8) Hr.out
  rw [Hl.out] at ht
  refine ht.mono ?_
  rintro e w2 ⟨rfl, rfl⟩
  go_wp2_with fail
  go_ret
  exact ⟨rfl, Ho.out, Hk.out⟩

set_option maxHeartbeats 400000 in
theorem read_num_short {G : Nat → Prop} {w : World} {b : Nat} {l : List UInt8} (h : Opn G w b l none) (hG : G w.heap.size) (n : Int) (hn : n < 0 ∨ (l.length : Int) < n) :
    Calls Tryd.prog 37 #[.pointer (some ⟨b, 0, none⟩), .int .i64 n, .func (Fn.func 38) #[] #[]] w fun e w' => e = .returned (.int .u64 0) ∧ Opn G w' b l (some 3) ∧ Kp (fun k => k = b) w w' := by
  have H := Lib.hid h
  have Hn := Lib.hid hn
  obtain ⟨_, A0, c0, fv, hx, _, _, _, _, h5⟩ := h
  cases h5
  clear hn
  go_enter Tryd.func37, Tryd.ntmps37
  go_wp2_with fail
  refine (reader_fine b w _ hx).mono ?_
  rintro e w1 ⟨rfl, rfl⟩
  clear hx
  go_wp2_with fail
  refine (next_fails H.out hG n Hn.out).mono ?_
  rintro e w1 ⟨rfl, ho, hk⟩
  have Ho := Lib.hid ho
  have Hk := Lib.hid hk
  clear ho hk
  go_wp2_with fail
  go_ret
  exact ⟨rfl, Ho.out, Hk.out⟩

set_option maxHeartbeats 400000 in
theorem read_num_failed {G : Nat → Prop} {w : World} {b : Nat} {l : List UInt8} {e0 : Int} (h : Opn G w b l (some e0)) (he : e0 ≠ 0) (n : Int) :
    Calls Tryd.prog 37 #[.pointer (some ⟨b, 0, none⟩), .int .i64 n, .func (Fn.func 38) #[] #[]] w fun e w' => e = .returned (.int .u64 0) ∧ Opn G w' b l (some e0) ∧ Kp (fun k => k = b) w w' := by
  have H := Lib.hid h
  obtain ⟨_, A0, c0, fv, hx, _, _, _, _, g, rfl, _, hg⟩ := h
  have hne : (e0 == 0) = false := by simpa using he
  have hne2 : (e0 != 0) = true := by simpa using he
  go_enter Tryd.func37, Tryd.ntmps37
  go_wp2_with fail
  refine (reader_fails b g w _ hx).mono ?_
  rintro e w1 ⟨rfl, rfl⟩
  clear hx
  go_wp2_with fail
  refine (failing1 g n e0 w hg).mono ?_
  rintro e w1 ⟨rfl, q, rfl⟩
  clear hg
  go_wp2_with fail
  go_ret
  exact ⟨rfl, H.out.kp ((Kp.refl (fun _ => False) w).drewN q) (fun _ _ h => h), (Kp.refl _ w).drewN q⟩

set_option maxHeartbeats 400000 in
theorem read_num_nil (n : Int) (w : World) :
    Calls Tryd.prog 37 #[.pointer none, .int .i64 n, .func (Fn.func 38) #[] #[]] w fun e w' => e = .returned (.int .u64 0) ∧ Kp (fun _ => False) w w' := by
  go_enter Tryd.func37, Tryd.ntmps37
  go_wp2_with fail
  refine (reader_nil w).mono ?_
  rintro e w1 ⟨rfl, rfl⟩
  go_wp2_with fail
  refine (failing1 _ n 1 _ (Box.new w 24 #[.int .i64 1])).mono ?_
  rintro e w1 ⟨rfl, q, rfl⟩
  go_wp2_with fail
  go_ret
  exact ⟨rfl, ((Kp.refl _ _).alloc _).drewN q⟩

set_option maxHeartbeats 400000 in
theorem read_text_fine {G : Nat → Prop} {w : World} {b : Nat} {l : List UInt8} (h : Opn G w b l none) (n : Nat) (hn : n ≤ l.length) :
    Calls Tryd.prog 34 #[.pointer (some ⟨b, 0, none⟩), .int .i64 n, .func (Fn.func 35) #[] #[]] w fun e w' => e = .returned (.string ⟨(l.take n).toArray⟩) ∧ Opn G w' b (l.drop n) none ∧ Kp (fun k => k = b) w w' := by
  have hlen : (l.take n).length = n := by simp; omega
  have H := Lib.hid h
  obtain ⟨_, A0, c0, fv, hx, _, _, _, _, h5⟩ := h
  cases h5
  have Hl := Lib.hid hlen
  clear hlen
  go_enter Tryd.func34, Tryd.ntmps34
  go_wp2_with fail
  refine (reader_fine b w _ hx).mono ?_
  rintro e w1 ⟨rfl, rfl⟩
  clear hx
  go_wp2_with fail
  refine (next_fine H.out n hn).mono ?_
  rintro e w1 ⟨A, c, rfl, hc1, hc2, hr, _, ho, hk⟩
  have Hr := Lib.hid hr
  have Ho := Lib.hid ho
  have Hk := Lib.hid hk
  clear hr ho hk
  go_wp2_with fail
  have ht := text1_rd A c (l.take n) w1 Hr.out
  rw [Hl.out] at ht
  refine ht.mono ?_
  rintro e w2 ⟨rfl, rfl⟩
  go_wp2_with fail
  go_ret
  exact ⟨rfl, Ho.out, Hk.out⟩

set_option maxHeartbeats 400000 in
theorem read_text_short {G : Nat → Prop} {w : World} {b : Nat} {l : List UInt8} (h : Opn G w b l none) (hG : G w.heap.size) (n : Int) (hn : n < 0 ∨ (l.length : Int) < n) :
    Calls Tryd.prog 34 #[.pointer (some ⟨b, 0, none⟩), .int .i64 n, .func (Fn.func 35) #[] #[]] w fun e w' => e = .returned (.string ⟨#[]⟩) ∧ Opn G w' b l (some 3) ∧ Kp (fun k => k = b) w w' := by
  have H := Lib.hid h
  have Hn := Lib.hid hn
  obtain ⟨_, A0, c0, fv, hx, _, _, _, _, h5⟩ := h
  cases h5
  clear hn
  go_enter Tryd.func34, Tryd.ntmps34
  go_wp2_with fail
  refine (reader_fine b w _ hx).mono ?_
  rintro e w1 ⟨rfl, rfl⟩
  clear hx
  go_wp2_with fail
  refine (next_fails H.out hG n Hn.out).mono ?_
  rintro e w1 ⟨rfl, ho, hk⟩
  have Ho := Lib.hid ho
  have Hk := Lib.hid hk
  clear ho hk
  go_wp2_with fail
  go_ret
  exact ⟨rfl, Ho.out, Hk.out⟩

set_option maxHeartbeats 400000 in
theorem read_text_failed {G : Nat → Prop} {w : World} {b : Nat} {l : List UInt8} {e0 : Int} (h : Opn G w b l (some e0)) (he : e0 ≠ 0) (n : Int) :
    Calls Tryd.prog 34 #[.pointer (some ⟨b, 0, none⟩), .int .i64 n, .func (Fn.func 35) #[] #[]] w fun e w' => e = .returned (.string ⟨#[]⟩) ∧ Opn G w' b l (some e0) ∧ Kp (fun k => k = b) w w' := by
  have H := Lib.hid h
  obtain ⟨_, A0, c0, fv, hx, _, _, _, _, g, rfl, _, hg⟩ := h
  have hne : (e0 == 0) = false := by simpa using he
  have hne2 : (e0 != 0) = true := by simpa using he
  go_enter Tryd.func34, Tryd.ntmps34
  go_wp2_with fail
  refine (reader_fails b g w _ hx).mono ?_
  rintro e w1 ⟨rfl, rfl⟩
  clear hx
  go_wp2_with fail
  refine (failing1 g n e0 w hg).mono ?_
  rintro e w1 ⟨rfl, q, rfl⟩
  clear hg
  go_wp2_with fail
  go_ret
  exact ⟨rfl, H.out.kp ((Kp.refl (fun _ => False) w).drewN q) (fun _ _ h => h), (Kp.refl _ w).drewN q⟩

set_option maxHeartbeats 400000 in
theorem read_text_nil (n : Int) (w : World) :
    Calls Tryd.prog 34 #[.pointer none, .int .i64 n, .func (Fn.func 35) #[] #[]] w fun e w' => e = .returned (.string ⟨#[]⟩) ∧ Kp (fun _ => False) w w' := by
  go_enter Tryd.func34, Tryd.ntmps34
  go_wp2_with fail
  refine (reader_nil w).mono ?_
  rintro e w1 ⟨rfl, rfl⟩
  go_wp2_with fail
  refine (failing1 _ n 1 _ (Box.new w 24 #[.int .i64 1])).mono ?_
  rintro e w1 ⟨rfl, q, rfl⟩
  go_wp2_with fail
  go_ret
  exact ⟨rfl, ((Kp.refl _ _).alloc _).drewN q⟩

end Go.Proofs.YtcgfnfejacgaeaaDoor
