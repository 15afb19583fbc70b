/- The power goes; an act is done. No condition but the disk's own. -/
import Derived.Test.YtfcljcikajaedaaDoorMg16
import Derived.Test.YtfcljcikajaedaaDoorMg17
namespace Go.Proofs.YtfcljcikajaedaaDoor
open Go.RowKit Go.Maps

/-- What a call may turn. -/
def Tn (b : Nat) (vs : Value) (gm k : Nat) : Prop := k = b ∨ vs.ownBlock = some k ∨ k = gm

theorem ok_lose {d : Dm} (h : d.ok) (l : List UInt8) : (d.lose l).ok :=
  ⟨by simpa [Dm.lose, settleL_length] using h.few, by simpa [Dm.lose, settleL_length] using h.some, settleL_each (bitOf l) _ _ 512 h.each h.long, by simp [Dm.lose], by simp [Dm.lose], by simp [Dm.lose], by simp [Dm.lose], h.acts_, by simp [Dm.lose]⟩
theorem ok_act {d : Dm} (h : d.ok) : d.act.ok :=
  ⟨h.few, h.some, h.each, h.at_, h.long, h.waits, by have := h.left_; unfold Dm.act; dsimp only; split <;> omega, by unfold Dm.act; dsimp only; omega, h.keep_⟩
theorem ok_all {d : Dm} (h : d.ok) : d.all.ok :=
  ⟨by simpa [Dm.all, settleL_length] using h.few, by simpa [Dm.all, settleL_length] using h.some, settleL_each (fun _ => true) _ _ 512 h.each h.long, by simp [Dm.all], by simp [Dm.all], by simp [Dm.all], h.left_, h.acts_, h.keep_⟩

theorem u64_next (n : Nat) : IntKind.u64.wrap ((n : Int) + 1) = (((n + 1) % 18446744073709551616 : Nat) : Int) := by
  simp [IntKind.wrap, IntKind.signed, IntKind.bits]
section
variable {w : World} {b : Nat} {vs vw : Value} {gm : Nat} {d : Dm}
/-- Cells of the disk's own block are turned. -/
theorem Dk.turn {d' : Dm} {W : World} (h : Dk w b vs vw gm d) (ok : d'.ok) (hb : Box W b 62 (dcs d' vs vw gm)) (h1 : d'.on = d.on) (h2 : d'.wait = d.wait) (hk : Kp (fun k => k = b) w W) : Dk W b vs vw gm d' := by
  have ap := h.apart
  refine ⟨ok, hb, ?_, ?_, ?_⟩
  · rw [h1]; exact down_kp h.st hk (fun k e e2 => ap.1 (by rw [e, show k = b from e2]))
  · rw [h2]; exact down_kp h.wt hk (fun k e e2 => ap.2.1 (by rw [e, show k = b from e2]))
  · rw [h2]; exact h.nm.kp hk ap.2.2.1
theorem Dk.alloc (h : Dk w b vs vw gm d) (o : Obj) : Dk (w.alloc o) b vs vw gm d := h.kp ((Kp.refl (fun _ => False) w).alloc o) (fun _ _ h => h)
theorem Dk.drewN (h : Dk w b vs vw gm d) (n : Nat) : Dk (w.drewN n) b vs vw gm d := h.kp ((Kp.refl (fun _ => False) w).drewN n) (fun _ _ h => h)

set_option maxHeartbeats 1000000 in
theorem lose_any (h : Dk w b vs vw gm d) (l : List UInt8) (hl : l.length ≤ maxLen) :
    Calls Tryd.prog 74 #[.pointer (some ⟨b, 0, none⟩), .string ⟨l.toArray⟩] w fun e w' => e = .returned (.tuple #[]) ∧ Dk w' b vs (.slice none 0 0) gm (d.lose l) ∧ Kp (Tn b vs gm) w w' := by
  have hmf : ∀ (fn : Fn) (first cap : Array Value) (w : World), (Instr.makeFunc fn first cap).run Tryd.prog w = .ok (.func fn first cap) w := fun _ _ _ _ => rfl
  have hset := settle_bit (h.alloc (.cells #[.string ⟨l.toArray⟩] 9)) l hl w.heap.size ((Box.new w 9 #[.string ⟨l.toArray⟩]).cell 0) (fun e => Nat.lt_irrefl _ (h.lt _ e))
  have ok := ok_lose h.ok l
  have H := Lib.hid h
  clear h
  go_enter Tryd.func74, Tryd.ntmps74
  go_wp2_with fail
  refine hset.mono ?_
  rintro e w1 ⟨rfl, h1, k1⟩
  clear hset
  have hb1 := h1.box
  have f3 := hb1.free 3
  have f4 := hb1.free 4
  have f5 := hb1.free 5
  have f6 := hb1.free 6
  have e3 := h1.c3
  have e4 := h1.c4
  have e5 := h1.c5
  have e6 := h1.c6
  dsimp only at e3 e4 e5 e6
  have H1 := Lib.hid h1
  have K1 := Lib.hid k1
  clear h1 k1 hb1
  go_wp2_with fail
  go_end0
  refine ⟨rfl, H1.out.turn (d' := d.lose l) ok ?_ rfl rfl ?_, ?_⟩
  · exact ((((H1.out.box.put 3 (.bool false)).put 4 (.bool false)).put 5 (.int .i64 0)).put 6 (.string ⟨#[]⟩))
  · exact (((((Kp.refl (fun k => k = b) w1).setCell (.inr rfl) _).setCell (.inr rfl) _).setCell (.inr rfl) _).setCell (.inr rfl) _)
  · have k0 := ((Kp.refl (Tn b vs gm) w).alloc (.cells #[.string ⟨l.toArray⟩] 9)).trans K1.out
    exact (((k0.setCell (.inr (.inl rfl)) _).setCell (.inr (.inl rfl)) _).setCell (.inr (.inl rfl)) _).setCell (.inr (.inl rfl)) _

set_option maxHeartbeats 1000000 in
/-- No act is left: the power goes. -/
theorem act_out (h : Dk w b vs vw gm d) (ho : d.out = true) :
    Calls Tryd.prog 49 #[.pointer (some ⟨b, 0, none⟩)] w fun e w' => e = .returned (.int .i64 4) ∧ Dk w' b vs (.slice none 0 0) gm (d.lose d.keep) ∧ Kp (Tn b vs gm) w w' := by
  obtain ⟨hl, h0⟩ : d.lit = true ∧ d.left = 0 := by simpa [Dm.out] using ho
  have e4 := h.c4
  have e5 := h.c5
  have e6 := h.c6
  rw [hl] at e4
  rw [h0] at e5
  have hk := h.ok.keep_
  have H := Lib.hid h
  clear h ho hl h0
  go_enter Tryd.func49, Tryd.ntmps49
  go_wp2_with fail
  refine (lose_any H.out d.keep hk).mono ?_
  rintro e w1 ⟨rfl, h1, k1⟩
  have H1 := Lib.hid h1
  have K1 := Lib.hid k1
  clear h1 k1
  go_wp2_with fail
  go_ret
  exact ⟨rfl, H1.out, K1.out⟩

set_option maxHeartbeats 1000000 in
/-- An act is counted. -/
theorem act_ok (h : Dk w b vs vw gm d) (ho : d.out = false) :
    Calls Tryd.prog 49 #[.pointer (some ⟨b, 0, none⟩)] w fun e w' => e = .returned (.int .i64 0) ∧ Dk w' b vs vw gm d.act ∧ Kp (fun k => k = b) w w' := by
  have ok := ok_act h.ok
  have e4 := h.c4
  have e5 := h.c5
  have e7 := h.c7
  have f5 := h.box.free 5
  have f7 := h.box.free 7
  have ha := h.ok.acts_
  have hf := h.ok.left_
  have H := Lib.hid h
  clear h
  have hx : Dm.act d = { d with left := if d.lit then d.left - 1 else d.left, acts := (d.acts + 1) % 18446744073709551616 } := rfl
  have HX := Lib.hid hx
  clear hx
  rcases hl : d.lit with _ | _
  · rw [hl] at e4 HX
    have HL := Lib.hid hl
    clear hl ho
    go_enter Tryd.func49, Tryd.ntmps49
    go_wp2_with fail
    go_ret
    refine ⟨rfl, H.out.turn ok ?_ rfl rfl (Kp.one _ _ _ _), Kp.one _ _ _ _⟩
    have hb := H.out.box.put 7 (.int .u64 (IntKind.u64.wrap (d.acts + 1)))
    have e : dcs d.act vs vw gm = (dcs d vs vw gm).setIfInBounds 7 (.int .u64 (IntKind.u64.wrap (d.acts + 1))) := by
      rw [HX.out, u64_next]
      simp [dcs, HL.out]
    rw [e]
    exact hb
  · have h0 : d.left ≠ 0 := by simpa [Dm.out, hl] using ho
    rw [hl] at e4 HX
    have HL := Lib.hid hl
    have hd : (((d.left : Nat) : Int) == 0) = false := by simpa using h0
    have h1 : (1 : Int) ≤ (d.left : Int) := by omega
    have hf' : (d.left : Int) < 9223372036854775808 := by omega
    clear hl ho h0
    go_enter Tryd.func49, Tryd.ntmps49
    go_wp2_with fail
    go_ret
    have k2 := (Kp.one w b 5 (.int .i64 (d.left - 1))).trans (Kp.one _ b 7 (.int .u64 (IntKind.u64.wrap (d.acts + 1))))
    refine ⟨rfl, H.out.turn ok ?_ rfl rfl k2, k2⟩
    have hb := (H.out.box.put 5 (.int .i64 (d.left - 1))).put 7 (.int .u64 (IntKind.u64.wrap (d.acts + 1)))
    have e : dcs d.act vs vw gm = ((dcs d vs vw gm).setIfInBounds 5 (.int .i64 (d.left - 1))).setIfInBounds 7 (.int .u64 (IntKind.u64.wrap (d.acts + 1))) := by
      have hc : ((d.left - 1 : Nat) : Int) = (d.left : Int) - 1 := by omega
      rw [HX.out, u64_next, ← hc]
      simp [dcs, HL.out]
    rw [e]
    exact hb
end
end Go.Proofs.YtfcljcikajaedaaDoor
