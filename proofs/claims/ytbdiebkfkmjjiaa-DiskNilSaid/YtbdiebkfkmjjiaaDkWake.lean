/- The law's own known disk: it answers as the document says. No condition. -/
import Derived.Test.YtbdiebkfkmjjiaaDkFull
namespace Go.Proofs.Ytbdiebkfkmjjiaa
open Go.RowKit Go.Maps

theorem full_97 (w : World) : Calls Try.prog 25 #[.int .u8 97] w fun e w' => ∃ g, e = .returned (.slice (some ⟨g, 0, none⟩) 512 512) ∧ Box w' g 5 (bcs (fullL 97)).toArray ∧ w.heap.size ≤ g ∧ Kp (fun _ => False) w w' := full_any 97 w
theorem full_98 (w : World) : Calls Try.prog 25 #[.int .u8 98] w fun e w' => ∃ g, e = .returned (.slice (some ⟨g, 0, none⟩) 512 512) ∧ Box w' g 5 (bcs (fullL 98)).toArray ∧ w.heap.size ≤ g ∧ Kp (fun _ => False) w w' := full_any 98 w
theorem full_99 (w : World) : Calls Try.prog 25 #[.int .u8 99] w fun e w' => ∃ g, e = .returned (.slice (some ⟨g, 0, none⟩) 512 512) ∧ Box w' g 5 (bcs (fullL 99)).toArray ∧ w.heap.size ≤ g ∧ Kp (fun _ => False) w w' := full_any 99 w
def k1 : Dm := ⟨[zsec, zsec], [(0, fullL 97)], true, false, 0, [], 1⟩
def k2 : Dm := ⟨[fullL 97, zsec], [], true, false, 0, [], 2⟩
def k3 : Dm := ⟨[fullL 97, zsec], [(0, fullL 98)], true, false, 0, [], 3⟩
def k4 : Dm := ⟨[fullL 97, zsec], [(0, fullL 98), (1, fullL 99)], true, false, 0, [], 4⟩
def k5 : Dm := ⟨[fullL 97, fullL 99], [], false, false, 0, [], 4⟩
def k6 : Dm := ⟨[fullL 97, fullL 99], [], true, false, 0, [], 4⟩
theorem s1 : (newDm 2).writeS 0 (fullL 97) = (k1, 0) := by
  unfold Dm.writeS
  rw [fullL_length]
  rfl
theorem s2 : k1.flushS = (k2, 0) := rfl
theorem s3 : k2.writeS 0 (fullL 98) = (k3, 0) := by
  unfold Dm.writeS
  rw [fullL_length]
  rfl
theorem s4 : k3.writeS 1 (fullL 99) = (k4, 0) := by
  unfold Dm.writeS
  rw [fullL_length]
  rfl
theorem s5 : k4.crashS [2] = (k5, 0) := rfl
theorem s6 : k5.startS = k6 := rfl
theorem r0 : k6.readS 0 = (fullL 97, 0) := rfl
theorem r1 : k6.readS 1 = (fullL 99, 0) := rfl

theorem grow_F {w v : World} {S : Nat → Prop} (hk : Kp S w v) : ∀ k, v.heap.size ≤ k → w.heap.size ≤ k := fun _ h => Nat.le_trans hk.size h
theorem NewB.of_full {w w' : World} {g : Nat} {l : List UInt8} (hb : Box w' g 5 (bcs l).toArray) (hg : w.heap.size ≤ g) : Rd w' (some ⟨g, 0, none⟩) l ∧ ∀ ad, some (⟨g, 0, none⟩ : Addr) = some ad → ∀ cs fr, w'.heap[ad.block]? ≠ some (.cells cs 71 fr) := ⟨(NewB.of_box hb hg).rd, (NewB.of_box hb hg).off⟩
set_option maxRecDepth 100000 in
set_option maxHeartbeats 8000000 in
theorem wakes_true (w : World) : Calls Try.prog 7 #[] w fun e w' => e = .returned (.bool true) ∧ Kp (fun _ => False) w w' := by
  go_enter Try.func7, Try.ntmps7
  go_wp2_with fail
  refine (new_any 2 (by decide) (by decide) w).mono ?_
  rintro e w1 ⟨b, rfl, d1, q1⟩
  have D1 := Lib.hid d1
  have Q1 := Lib.hid (q1.of_false (S := fun k => w.heap.size ≤ k))
  clear d1 q1
  go_wp2_with fail
  refine (full_97 _).mono ?_
  rintro e w2 ⟨g2, rfl, b2, l2, q2⟩
  have B2 := Lib.hid (NewB.of_full b2 l2)
  have Q2 := Lib.hid (Q1.out.trans q2.of_false)
  have D2 := Lib.hid (D1.out.still q2)
  clear b2 l2 q2
  go_wp2_with fail
  have hwr := write_any (grow_F Q2.out) D2.out 0 (some ⟨g2, 0, none⟩) (fullL 97) 512 B2.out.1 B2.out.2 (by decide)
  rw [fullL_length, s1] at hwr
  refine hwr.mono ?_
  clear hwr
  rintro e w3 ⟨rfl, d3, q3⟩
  have D3 := Lib.hid d3
  have Q3 := Lib.hid (Q2.out.trans q3)
  clear d3 q3
  go_wp2_with fail
  refine (flush_any (grow_F Q3.out) D3.out).mono ?_
  rw [s2]
  rintro e w4 ⟨rfl, d4, q4⟩
  have D4 := Lib.hid d4
  have Q4 := Lib.hid (Q3.out.trans q4)
  clear d4 q4
  go_wp2_with fail
  refine (full_98 _).mono ?_
  rintro e w5 ⟨g5, rfl, b5, l5, q5⟩
  have B5 := Lib.hid (NewB.of_full b5 l5)
  have Q5 := Lib.hid (Q4.out.trans q5.of_false)
  have D5 := Lib.hid (D4.out.still q5)
  clear b5 l5 q5
  go_wp2_with fail
  have hwr := write_any (grow_F Q5.out) D5.out 0 (some ⟨g5, 0, none⟩) (fullL 98) 512 B5.out.1 B5.out.2 (by decide)
  rw [fullL_length, s3] at hwr
  refine hwr.mono ?_
  clear hwr
  rintro e w6 ⟨rfl, d6, q6⟩
  have D6 := Lib.hid d6
  have Q6 := Lib.hid (Q5.out.trans q6)
  clear d6 q6
  go_wp2_with fail
  refine (full_99 _).mono ?_
  rintro e w7 ⟨g7, rfl, b7, l7, q7⟩
  have B7 := Lib.hid (NewB.of_full b7 l7)
  have Q7 := Lib.hid (Q6.out.trans q7.of_false)
  have D7 := Lib.hid (D6.out.still q7)
  clear b7 l7 q7
  go_wp2_with fail
  have hwr := write_any (grow_F Q7.out) D7.out 1 (some ⟨g7, 0, none⟩) (fullL 99) 512 B7.out.1 B7.out.2 (by decide)
  rw [fullL_length, s4] at hwr
  refine hwr.mono ?_
  clear hwr
  rintro e w8 ⟨rfl, d8, q8⟩
  have D8 := Lib.hid d8
  have Q8 := Lib.hid (Q7.out.trans q8)
  clear d8 q8
  go_wp2_with fail
  refine (crash_any D8.out [2] (by decide)).mono ?_
  rw [s5]
  rintro e w9 ⟨rfl, d9, q9⟩
  have D9 := Lib.hid d9
  have Q9 := Lib.hid (Q8.out.trans q9)
  clear d9 q9
  go_wp2_with fail
  refine (start_any D9.out).mono ?_
  rw [s6]
  rintro e w10 ⟨rfl, d10, q10⟩
  have D10 := Lib.hid d10
  have Q10 := Lib.hid (Q9.out.trans q10)
  clear d10 q10
  go_wp2_with fail
  refine (read_any D10.out 0).mono ?_
  rw [r0]
  rintro e w11 ⟨A0, rfl, a11, q11⟩
  rw [fullL_length]
  have D11 := Lib.hid (D10.out.still q11)
  have A11 := Lib.hid a11
  have Q11 := Lib.hid (Q10.out.trans q11.of_false)
  clear a11 q11
  go_wp2_with fail
  refine (read_any D11.out 1).mono ?_
  rw [r1]
  rintro e w12 ⟨A1, rfl, a12, q12⟩
  rw [fullL_length]
  have D12 := Lib.hid (D11.out.still q12)
  have A12 := Lib.hid a12
  have A11' := Lib.hid (A11.out.kp q12 (fun _ _ h => h))
  have Q12 := Lib.hid (Q11.out.trans q12.of_false)
  clear a12 q12
  go_wp2_with fail
  have htA := fun v (hv : Kp (fun _ => False) w12 v) => (A11'.out.kp hv (fun _ _ h => h)).text (P := Try.prog) 47 9 5 512 Try.underlying47 Try.underlying5 Try.underlying9
  have htB := fun v (hv : Kp (fun _ => False) w12 v) => (A12.out.kp hv (fun _ _ h => h)).text (P := Try.prog) 47 9 5 512 Try.underlying47 Try.underlying5 Try.underlying9
  have h97 := fullL_length 97
  have h99 := fullL_length 99
  rw [fullL_length] at htA htB
  go_region_held3 (fun v => Kp (fun _ => False) w12 v)
    (first | assumption | exact (Kp.refl _ w12).drew | exact Hid.out (by assumption))
    (first
      | (go_at_call 25; (with_reducible refine (full_97 _).mono ?_); rintro e y ⟨g, rfl, hb, hg, hk⟩; have HS := Lib.hid (Kp.trans (by assumption) hk : Kp (fun _ => False) w12 y); have ht := ((NewB.of_box hb hg).rd).text (P := Try.prog) 47 9 5 512 Try.underlying47 Try.underlying5 Try.underlying9; rw [fullL_length] at ht; clear hb hg hk)
      | (go_at_call 25; (with_reducible refine (full_99 _).mono ?_); rintro e y ⟨g, rfl, hb, hg, hk⟩; have HS := Lib.hid (Kp.trans (by assumption) hk : Kp (fun _ => False) w12 y); have ht := ((NewB.of_box hb hg).rd).text (P := Try.prog) 47 9 5 512 Try.underlying47 Try.underlying5 Try.underlying9; rw [fullL_length] at ht; clear hb hg hk)
      | (go_at_call 14; refine (acts_any (D12.out.still (by assumption))).mono ?_; rintro e y ⟨rfl, rfl⟩))
  all_goals
    rename_i hHeld
    have HH := Lib.hid hHeld
    clear hHeld
    go_wp2_with fail
    go_ret
    exact ⟨rfl, (Q12.out.fresh _).trans HH.out⟩
end Go.Proofs.Ytbdiebkfkmjjiaa
