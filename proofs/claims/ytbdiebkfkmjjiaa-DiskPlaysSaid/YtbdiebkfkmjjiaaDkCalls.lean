/- The calls of a disk: flush, crash, start, fuse; and those that only look. No condition but the disk's own. -/
import Derived.Test.YtbdiebkfkmjjiaaDkAsk
namespace Go.Proofs.Ytbdiebkfkmjjiaa
open Go.RowKit Go.Maps

/-- What the calls answer, and what the disk is behind them. -/
def Dm.flushS (d : Dm) : Dm × Int := if !d.power then (d, 4) else if d.out then (d.lose d.keep, 4) else (d.act.all, 0)
def Dm.crashS (d : Dm) (k : List UInt8) : Dm × Int := if !d.power then (d, 4) else (d.lose k, 0)
def Dm.startS (d : Dm) : Dm := { d with power := true }
def Dm.fuseS (d : Dm) (n : Int) (k : List UInt8) : Dm × Int := if decide (0 ≤ n) then ({ d with lit := true, left := n.toNat, keep := k }, 0) else (d, 2)

theorem Kp.of_false {S : Nat → Prop} {w w' : World} (h : Kp (fun _ => False) w w') : Kp S w w' := h.mono fun _ _ h => h.elim
theorem Dsk.still {F : Nat → Prop} {w w' : World} {b : Nat} {d : Dm} (h : Dsk F w b d) (hk : Kp (fun _ => False) w w') : Dsk F w' b d := h.kp hk fun _ _ h => h
theorem Dk.still {w w' : World} {b : Nat} {vs vw : Value} {gm : Nat} {d : Dm} (h : Dk w b vs vw gm d) (hk : Kp (fun _ => False) w w') : Dk w' b vs vw gm d := h.kp hk fun _ _ h => h

section
variable {w : World} {b : Nat} {vs vw : Value} {gm : Nat} {d : Dm} {F : Nat → Prop}


theorem sub_lose {F : Nat → Prop} {b : Nat} {vs vw : Value} {gm : Nat} (h : ∀ k, Ft b vs vw gm k → F k) : ∀ k, Ft b vs (.slice none 0 0) gm k → F k := by
  rintro k (e | e | e | e)
  · exact h k (.inl e)
  · exact h k (.inr (.inl e))
  · simp [Value.ownBlock] at e
  · exact h k (.inr (.inr (.inr e)))
theorem sub_tn {F : Nat → Prop} {b : Nat} {vs vw : Value} {gm : Nat} (h : ∀ k, Ft b vs vw gm k → F k) : ∀ k, Tn b vs gm k → F k := by
  rintro k (e | e | e)
  · exact h k (.inl e)
  · exact h k (.inr (.inl e))
  · exact h k (.inr (.inr (.inr e)))
set_option maxHeartbeats 1000000 in
theorem flush_any (hD : Dsk F w b d) :
    Calls Try.prog 16 #[.pointer (some ⟨b, 0, none⟩)] w fun e w' => e = .returned (.int .i64 d.flushS.2) ∧ Dsk F w' b d.flushS.1 ∧ Kp F w w' := by
  obtain ⟨vs, vw, gm, h, hsub⟩ := hD
  have hx : d.flushS = if !d.power then (d, 4) else if d.out then (d.lose d.keep, 4) else (d.act.all, 0) := rfl
  have HD := Lib.hid (show Dsk F w b d from ⟨vs, vw, gm, h, hsub⟩)
  have HS := Lib.hid hsub
  have h2 : Dk (w.alloc (.cells #[.func (.func 38) #[] #[], .func (.func 39) #[] #[]] 86)) b vs vw gm d := h.alloc _
  have hbn := Box.new w 86 #[.func (.func 38) #[] #[], .func (.func 39) #[] #[]]
  have ka : Kp F w (w.alloc (.cells #[.func (.func 38) #[] #[], .func (.func 39) #[] #[]] 86)) := (Kp.refl F w).alloc _
  clear h hsub
  rcases hp : d.power with _ | _
  · have kk := ask_pa_1 h2 w.heap.size 2 (hbn.cell 0) (hbn.cell 1) hp
    rw [hp] at hx
    have HX := Lib.hid hx
    have KA := Lib.hid ka
    have H2 := Lib.hid h2
    clear hx ka h2 hbn
    go_enter Try.func16, Try.ntmps16
    go_wp2_with fail
    refine kk.mono ?_
    rintro e w1 ⟨rfl, rfl⟩
    clear kk
    go_wp2_with fail
    go_ret
    rw [HX.out]
    exact ⟨rfl, ⟨vs, vw, gm, H2.out, HS.out⟩, KA.out⟩
  · rcases ho : d.out with _ | _
    · have kk := ask_pa_00 h2 w.heap.size 2 (hbn.cell 0) (hbn.cell 1) hp ho
      rw [hp, ho] at hx
      have HX := Lib.hid hx
      have KA := Lib.hid ka
      clear hx ka h2 hbn
      go_enter Try.func16, Try.ntmps16
      go_wp2_with fail
      refine kk.mono ?_
      rintro e w1 ⟨rfl, h3, k3⟩
      have H3 := Lib.hid h3
      have K3 := Lib.hid (KA.out.trans (k3.mono fun k _ e => HS.out k (.inl e)))
      clear kk h3 k3
      go_wp2_with fail
      refine (settle_all H3.out).mono ?_
      rintro e w2 ⟨rfl, h4, k4⟩
      have H4 := Lib.hid h4
      have K4 := Lib.hid (K3.out.trans (k4.mono fun k _ e => sub_tn HS.out k e))
      clear h4 k4
      go_wp2_with fail
      go_ret
      rw [HX.out]
      exact ⟨rfl, ⟨vs, _, gm, H4.out, sub_lose HS.out⟩, K4.out⟩
    · have kk := ask_pa_01 h2 w.heap.size 2 (hbn.cell 0) (hbn.cell 1) hp ho
      rw [hp, ho] at hx
      have HX := Lib.hid hx
      have KA := Lib.hid ka
      clear hx ka h2 hbn
      go_enter Try.func16, Try.ntmps16
      go_wp2_with fail
      refine kk.mono ?_
      rintro e w1 ⟨rfl, h3, k3⟩
      have H3 := Lib.hid h3
      have K3 := Lib.hid (KA.out.trans (k3.mono fun k _ e => sub_tn HS.out k e))
      clear kk h3 k3
      go_wp2_with fail
      go_ret
      rw [HX.out]
      exact ⟨rfl, ⟨vs, _, gm, H3.out, sub_lose HS.out⟩, K3.out⟩

set_option maxHeartbeats 1000000 in
theorem crash_any (hD : Dsk F w b d) (l : List UInt8) (hl : l.length ≤ maxLen) :
    Calls Try.prog 20 #[.pointer (some ⟨b, 0, none⟩), .string ⟨l.toArray⟩] w fun e w' => e = .returned (.int .i64 (d.crashS l).2) ∧ Dsk F w' b (d.crashS l).1 ∧ Kp F w w' := by
  obtain ⟨vs, vw, gm, h, hsub⟩ := hD
  have hx : d.crashS l = if !d.power then (d, 4) else (d.lose l, 0) := rfl
  have HS := Lib.hid hsub
  have h2 : Dk (w.alloc (.cells #[.func (.func 38) #[] #[]] 86)) b vs vw gm d := h.alloc _
  have hbn := Box.new w 86 #[.func (.func 38) #[] #[]]
  have ka : Kp F w (w.alloc (.cells #[.func (.func 38) #[] #[]] 86)) := (Kp.refl F w).alloc _
  clear h hsub
  rcases hp : d.power with _ | _
  · have kk := ask_p_1 h2 w.heap.size 1 (hbn.cell 0) hp
    rw [hp] at hx
    have HX := Lib.hid hx
    have KA := Lib.hid ka
    have H2 := Lib.hid h2
    clear hx ka h2 hbn
    go_enter Try.func20, Try.ntmps20
    go_wp2_with fail
    refine kk.mono ?_
    rintro e w1 ⟨rfl, rfl⟩
    clear kk
    go_wp2_with fail
    go_ret
    rw [HX.out]
    exact ⟨rfl, ⟨vs, vw, gm, H2.out, HS.out⟩, KA.out⟩
  · have kk := ask_p_0 h2 w.heap.size 1 (hbn.cell 0) hp
    rw [hp] at hx
    have HX := Lib.hid hx
    have KA := Lib.hid ka
    have H2 := Lib.hid h2
    clear hx ka h2 hbn
    go_enter Try.func20, Try.ntmps20
    go_wp2_with fail
    refine kk.mono ?_
    rintro e w1 ⟨rfl, rfl⟩
    clear kk
    go_wp2_with fail
    refine (lose_any H2.out l hl).mono ?_
    rintro e w2 ⟨rfl, h4, k4⟩
    have H4 := Lib.hid h4
    have K4 := Lib.hid (KA.out.trans (k4.mono fun k _ e => sub_tn HS.out k e))
    clear h4 k4
    go_wp2_with fail
    go_ret
    rw [HX.out]
    exact ⟨rfl, ⟨vs, _, gm, H4.out, sub_lose HS.out⟩, K4.out⟩

set_option maxHeartbeats 1000000 in
theorem start_any (hD : Dsk F w b d) :
    Calls Try.prog 21 #[.pointer (some ⟨b, 0, none⟩)] w fun e w' => e = .returned (.int .i64 0) ∧ Dsk F w' b d.startS ∧ Kp F w w' := by
  obtain ⟨vs, vw, gm, h, hsub⟩ := hD
  have HS := Lib.hid hsub
  have e3 := h.c3
  have f3 := h.box.free 3
  have H := Lib.hid h
  clear h hsub
  go_enter Try.func21, Try.ntmps21
  go_wp2_with fail
  refine (ask_0 w b).mono ?_
  rintro e w1 ⟨rfl, rfl⟩
  go_wp2_with fail
  go_ret
  have hb := H.out.box.put 3 (.bool true)
  have ok := H.out.ok
  exact ⟨rfl, ⟨vs, vw, gm, H.out.turn (d' := d.startS) ⟨ok.few, ok.some, ok.each, ok.at_, ok.long, ok.waits, ok.left_, ok.acts_, ok.keep_⟩ hb rfl rfl (Kp.one _ _ _ _), HS.out⟩, (Kp.one w b 3 _).mono fun k _ e => HS.out k (.inl e)⟩

set_option maxHeartbeats 1000000 in
theorem fuse_any (hD : Dsk F w b d) (a : Int) (ha : a < 9223372036854775808) (l : List UInt8) (hl : l.length ≤ maxLen) :
    Calls Try.prog 19 #[.pointer (some ⟨b, 0, none⟩), .int .i64 a, .string ⟨l.toArray⟩] w fun e w' => e = .returned (.int .i64 (d.fuseS a l).2) ∧ Dsk F w' b (d.fuseS a l).1 ∧ Kp F w w' := by
  obtain ⟨vs, vw, gm, h, hsub⟩ := hD
  have hx : d.fuseS a l = if decide (0 ≤ a) then ({ d with lit := true, left := a.toNat, keep := l }, 0) else (d, 2) := rfl
  have HS := Lib.hid hsub
  have h2 : Dk ((w.alloc (.cells #[.int .i64 a] 3)).alloc (.cells #[.func (.func 51) #[] #[.pointer (some ⟨w.heap.size, 0, none⟩)]] 86)) b vs vw gm d := (h.alloc _).alloc _
  have hba := (Box.new w 3 #[.int .i64 a]).alloc (.cells #[.func (.func 51) #[] #[.pointer (some ⟨w.heap.size, 0, none⟩)]] 86)
  have hbn := Box.new (w.alloc (.cells #[.int .i64 a] 3)) 86 #[.func (.func 51) #[] #[.pointer (some ⟨w.heap.size, 0, none⟩)]]
  rw [World.size_alloc] at hbn
  have ka : Kp F w ((w.alloc (.cells #[.int .i64 a] 3)).alloc (.cells #[.func (.func 51) #[] #[.pointer (some ⟨w.heap.size, 0, none⟩)]] 86)) := ((Kp.refl F w).alloc _).alloc _
  clear h hsub
  rcases hp : decide (0 ≤ a) with _ | _
  · have kk := ask_m_1 h2 a w.heap.size (hba.cell 0) (w.heap.size + 1) 1 (hbn.cell 0) hp
    rw [hp] at hx
    have HX := Lib.hid hx
    have KA := Lib.hid ka
    have H2 := Lib.hid h2
    clear hx ka h2 hbn hba hp
    go_enter Try.func19, Try.ntmps19
    go_wp2_with fail
    refine (actsMayBe_any _ _).mono ?_
    rintro e w1 ⟨rfl, rfl⟩
    go_wp2_with fail
    refine kk.mono ?_
    rintro e w1 ⟨rfl, rfl⟩
    clear kk
    go_wp2_with fail
    go_ret
    rw [HX.out]
    exact ⟨rfl, ⟨vs, vw, gm, H2.out, HS.out⟩, KA.out⟩
  · have kk := ask_m_0 h2 a w.heap.size (hba.cell 0) (w.heap.size + 1) 1 (hbn.cell 0) hp
    have ha0 : 0 ≤ a := by simpa using hp
    have e4 := h2.c4
    have e5 := h2.c5
    have e6 := h2.c6
    have f4 := h2.box.free 4
    have f5 := h2.box.free 5
    have f6 := h2.box.free 6
    rw [hp] at hx
    have HX := Lib.hid hx
    have KA := Lib.hid ka
    have H2 := Lib.hid h2
    clear hx ka h2 hbn hba hp
    go_enter Try.func19, Try.ntmps19
    go_wp2_with fail
    refine (actsMayBe_any _ _).mono ?_
    rintro e w1 ⟨rfl, rfl⟩
    go_wp2_with fail
    refine kk.mono ?_
    rintro e w1 ⟨rfl, rfl⟩
    clear kk
    generalize hW : ((w.alloc (.cells #[.int .i64 a] 3)).alloc (.cells #[.func (.func 51) #[] #[.pointer (some ⟨w.heap.size, 0, none⟩)]] 86)) = W at *
    clear hW
    go_wp2_with fail
    go_ret
    rw [HX.out]
    have ok := H2.out.ok
    have hb := ((H2.out.box.put 4 (.bool true)).put 5 (.int .i64 a)).put 6 (.string ⟨l.toArray⟩)
    have k3 : Kp (fun k => k = b) W _ := (((Kp.refl (fun k => k = b) W).setCell (p := ⟨b, 4, none⟩) (.inr rfl) (.bool true)).setCell (p := ⟨b, 5, none⟩) (.inr rfl) (.int .i64 a)).setCell (p := ⟨b, 6, none⟩) (.inr rfl) (.string ⟨l.toArray⟩)
    refine ⟨rfl, ⟨vs, vw, gm, H2.out.turn (d' := { d with lit := true, left := a.toNat, keep := l }) ⟨ok.few, ok.some, ok.each, ok.at_, ok.long, ok.waits, by dsimp only; omega, ok.acts_, hl⟩ ?_ rfl rfl k3, HS.out⟩, KA.out.trans (k3.mono fun k _ e => HS.out k (.inl e))⟩
    have e : dcs { d with lit := true, left := a.toNat, keep := l } vs vw gm = (((dcs d vs vw gm).setIfInBounds 4 (.bool true)).setIfInBounds 5 (.int .i64 a)).setIfInBounds 6 (.string ⟨l.toArray⟩) := by
      have hc : ((a.toNat : Nat) : Int) = a := by omega
      simp [dcs, hc]
    rw [e]
    exact hb

theorem alive_any (hD : Dsk F w b d) : Calls Try.prog 22 #[.pointer (some ⟨b, 0, none⟩)] w fun e w' => e = .returned (.bool d.power) ∧ w = w' := by
  obtain ⟨vs, vw, gm, h, hsub⟩ := hD
  have e3 := h.c3
  clear h hsub
  go_enter Try.func22, Try.ntmps22
  go_wp2_with fail
  go_ret
  exact ⟨rfl, rfl⟩
theorem waiting_any (hD : Dsk F w b d) : Calls Try.prog 13 #[.pointer (some ⟨b, 0, none⟩)] w fun e w' => e = .returned (.int .i64 d.wait.length) ∧ w = w' := by
  obtain ⟨vs, vw, gm, h, hsub⟩ := hD
  have e1 := h.c1
  obtain ⟨A, cap, hv, _⟩ := h.wt_form
  rw [hv] at e1
  clear h hsub hv
  go_enter Try.func13, Try.ntmps13
  go_wp2_with fail
  go_ret
  exact ⟨rfl, rfl⟩
theorem acts_any (hD : Dsk F w b d) : Calls Try.prog 14 #[.pointer (some ⟨b, 0, none⟩)] w fun e w' => e = .returned (.int .u64 d.acts) ∧ w = w' := by
  obtain ⟨vs, vw, gm, h, hsub⟩ := hD
  have e7 := h.c7
  clear h hsub
  go_enter Try.func14, Try.ntmps14
  go_wp2_with fail
  go_ret
  exact ⟨rfl, rfl⟩
theorem len_any (hD : Dsk F w b d) : Calls Try.prog 23 #[.pointer (some ⟨b, 0, none⟩)] w fun e w' => e = .returned (.int .i64 d.on.length) ∧ w = w' := by
  obtain ⟨vs, vw, gm, h, hsub⟩ := hD
  have e0 := h.c0
  obtain ⟨gs, cap, hv, _⟩ := h.st_form
  rw [hv] at e0
  clear h hsub hv
  go_enter Try.func23, Try.ntmps23
  go_wp2_with fail
  go_ret
  exact ⟨rfl, rfl⟩
end
end Go.Proofs.Ytbdiebkfkmjjiaa
