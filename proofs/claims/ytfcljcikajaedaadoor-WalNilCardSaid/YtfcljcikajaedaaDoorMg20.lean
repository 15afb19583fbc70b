/- The calls of a disk: flush, crash, start, fuse; and those that only look. No condition but the disk's own. -/
import Derived.Test.YtfcljcikajaedaaDoorMg19
namespace Go.Proofs.YtfcljcikajaedaaDoor
open Go.RowKit Go.Maps

/-- What the calls answer, and what the disk is behind them. -/
def Dm.flushS (d : Dm) : Dm × Int := if !d.power then (d, 4) else if d.out then (d.lose d.keep, 4) else (d.act.all, 0)
def Dm.crashS (d : Dm) (k : List UInt8) : Dm × Int := if !d.power then (d, 4) else (d.lose k, 0)
def Dm.startS (d : Dm) : Dm := { d with power := true }
def Dm.fuseS (d : Dm) (n : Int) (k : List UInt8) : Dm × Int := if decide (0 ≤ n) then ({ d with lit := true, left := n.toNat, keep := k }, 0) else (d, 2)

theorem Kp.of_false {S : Nat → Prop} {w w' : World} (h : Kp (fun _ => False) w w') : Kp S w w' := h.mono fun _ _ h => h.elim
theorem Dsk.still {F : Nat → Prop} {w w' : World} {b : Nat} {d : Dm} (h : Dsk F w b d) (hk : Kp (fun _ => False) w w') : Dsk F w' b d := h.kp hk fun _ _ h => h
theorem Dk.still {w w' : World} {b : Nat} {vs vw : Value} {gm : Nat} {d : Dm} (h : Dk w b vs vw gm d) (hk : Kp (fun _ => False) w w') : Dk w' b vs vw gm d := h.kp hk fun _ _ h => h

section
variable {w : World} {b : Nat} {vs vw : Value} {gm : Nat} {d : Dm} {F : Nat → Prop}


theorem sub_lose {F : Nat → Prop} {b : Nat} {vs vw : Value} {gm : Nat} (h : ∀ k, Ft b vs vw gm k → F k) : ∀ k, Ft b vs (.slice none 0 0) gm k → F k := by
  rintro k (e | e | e | e)
  · exact h k (.inl e)
  · exact h k (.inr (.inl e))
  · simp [Value.ownBlock] at e
  · exact h k (.inr (.inr (.inr e)))
theorem sub_tn {F : Nat → Prop} {b : Nat} {vs vw : Value} {gm : Nat} (h : ∀ k, Ft b vs vw gm k → F k) : ∀ k, Tn b vs gm k → F k := by
  rintro k (e | e | e)
  · exact h k (.inl e)
  · exact h k (.inr (.inl e))
  · exact h k (.inr (.inr (.inr e)))
set_option maxHeartbeats 1000000 in
theorem flush_any (hD : Dsk F w b d) :
    Calls Tryd.prog 35 #[.pointer (some ⟨b, 0, none⟩)] w fun e w' => e = .returned (.int .i64 d.flushS.2) ∧ Dsk F w' b d.flushS.1 ∧ Kp F w w' := by
  obtain ⟨vs, vw, gm, h, hsub⟩ := hD
  have hx : d.flushS = if !d.power then (d, 4) else if d.out then (d.lose d.keep, 4) else (d.act.all, 0) := rfl
  have HD := Lib.hid (show Dsk F w b d from ⟨vs, vw, gm, h, hsub⟩)
  have HS := Lib.hid hsub
  have h2 : Dk (w.alloc (.cells #[.func (.func 39) #[] #[], .func (.func 49) #[] #[]] 88)) b vs vw gm d := h.alloc _
  have hbn := Box.new w 88 #[.func (.func 39) #[] #[], .func (.func 49) #[] #[]]
  have ka : Kp F w (w.alloc (.cells #[.func (.func 39) #[] #[], .func (.func 49) #[] #[]] 88)) := (Kp.refl F w).alloc _
  clear h hsub
  rcases hp : d.power with _ | _
  · have kk := ask_pa_1 h2 w.heap.size 2 (hbn.cell 0) (hbn.cell 1) hp
    rw [hp] at hx
    have HX := Lib.hid hx
    have KA := Lib.hid ka
    have H2 := Lib.hid h2
    clear hx ka h2 hbn
    go_enter Tryd.func35, Tryd.ntmps35
    go_wp2_with fail
    refine kk.mono ?_
    rintro e w1 ⟨rfl, rfl⟩
    clear kk
    go_wp2_with fail
    go_ret
    rw [HX.out]
    exact ⟨rfl, ⟨vs, vw, gm, H2.out, HS.out⟩, KA.out⟩
  · rcases ho : d.out with _ | _
    · have kk := ask_pa_00 h2 w.heap.size 2 (hbn.cell 0) (hbn.cell 1) hp ho
      rw [hp, ho] at hx
      have HX := Lib.hid hx
      have KA := Lib.hid ka
      clear hx ka h2 hbn
      go_enter Tryd.func35, Tryd.ntmps35
      go_wp2_with fail
      refine kk.mono ?_
      rintro e w1 ⟨rfl, h3, k3⟩
      have H3 := Lib.hid h3
      have K3 := Lib.hid (KA.out.trans (k3.mono fun k _ e => HS.out k (.inl e)))
      clear kk h3 k3
      go_wp2_with fail
      refine (settle_all H3.out).mono ?_
      rintro e w2 ⟨rfl, h4, k4⟩
      have H4 := Lib.hid h4
      have K4 := Lib.hid (K3.out.trans (k4.mono fun k _ e => sub_tn HS.out k e))
      clear h4 k4
      go_wp2_with fail
      go_ret
      rw [HX.out]
      exact ⟨rfl, ⟨vs, _, gm, H4.out, sub_lose HS.out⟩, K4.out⟩
    · have kk := ask_pa_01 h2 w.heap.size 2 (hbn.cell 0) (hbn.cell 1) hp ho
      rw [hp, ho] at hx
      have HX := Lib.hid hx
      have KA := Lib.hid ka
      clear hx ka h2 hbn
      go_enter Tryd.func35, Tryd.ntmps35
      go_wp2_with fail
      refine kk.mono ?_
      rintro e w1 ⟨rfl, h3, k3⟩
      have H3 := Lib.hid h3
      have K3 := Lib.hid (KA.out.trans (k3.mono fun k _ e => sub_tn HS.out k e))
      clear kk h3 k3
      go_wp2_with fail
      go_ret
      rw [HX.out]
      exact ⟨rfl, ⟨vs, _, gm, H3.out, sub_lose HS.out⟩, K3.out⟩

theorem len_any (hD : Dsk F w b d) : Calls Tryd.prog 14 #[.pointer (some ⟨b, 0, none⟩)] w fun e w' => e = .returned (.int .i64 d.on.length) ∧ w = w' := by
  obtain ⟨vs, vw, gm, h, hsub⟩ := hD
  have e0 := h.c0
  obtain ⟨gs, cap, hv, _⟩ := h.st_form
  rw [hv] at e0
  clear h hsub hv
  go_enter Tryd.func14, Tryd.ntmps14
  go_wp2_with fail
  go_ret
  exact ⟨rfl, rfl⟩
end
end Go.Proofs.YtfcljcikajaedaaDoor
