/- The memory of the law on any acts: two disks, and the document's own, twice. No condition. -/
import Derived.Test.YtbdiebkfkmjjiaaDkSame
namespace Go.Proofs.Ytbdiebkfkmjjiaa
open Go.RowKit Go.Maps

theorem next_wait (d : Dm) (x : Ac) : (d.next x).wait.length ≤ d.wait.length + 1 := by
  unfold Dm.next
  split
  · unfold Dm.flushS
    split
    · exact Nat.le_succ _
    · split
      · exact Nat.zero_le _
      · exact Nat.zero_le _
  split
  · unfold Dm.fuseS
    split <;> exact Nat.le_succ _
  split
  · unfold Dm.crashS
    split
    · exact Nat.le_succ _
    · exact Nat.zero_le _
  split
  · exact Nat.le_succ _
  split
  · exact Nat.le_succ _
  unfold Dm.writeS
  split
  · exact Nat.le_succ _
  split
  · exact Nat.le_succ _
  split
  · exact Nat.zero_le _
  · simp [Dm.push, Dm.act]
/-- A disk's blocks, and no others. -/
theorem Dsk.fit {F : Nat → Prop} {w : World} {b : Nat} {d : Dm} (h : Dsk F w b d) : ∃ F', Dsk F' w b d ∧ ∀ q, F' q → F q ∧ q < w.heap.size := by
  obtain ⟨vs, vw, gm, h1, h2⟩ := h
  exact ⟨_, ⟨vs, vw, gm, h1, fun _ e => e⟩, fun q e => ⟨h2 q e, h1.lt q e⟩⟩
/-- The disk, and the document's. -/
structure P0 (B : Nat) (w wr : World) (g7 b : Nat) (cs7 : Array Value) (d : Dm) (va vb : Value) : Prop where
  b7 : Box wr g7 33 cs7
  rf : Rf wr va vb d
  dk : Dsk (fun q => B ≤ q) wr b d
  ge : B ≤ g7
  kp : Kp (fun q => B ≤ q) w wr
  sz : B ≤ w.heap.size
/-- The same, beside a copy at c. -/
structure Pm (B : Nat) (w wr : World) (g7 b c : Nat) (cs7 : Array Value) (d dc : Dm) (va vb : Value) (k : Nat) : Prop where
  b7 : Box wr g7 33 cs7
  rf : Rf wr va vb d
  ds : ∃ FC : Nat → Prop, Dsk (fun q => B ≤ q ∧ ¬ FC q) wr b d ∧ Dsk FC wr c dc ∧ ∀ q, FC q → B ≤ q ∧ q < wr.heap.size
  ge : B ≤ g7
  wt : d.wait.length ≤ k
  kp : Kp (fun q => B ≤ q) w wr
  sz : B ≤ w.heap.size
/-- What the copy was. -/
structure Nine (B : Nat) (wr : World) (g7 g9 : Nat) (cs9 : Array Value) (E : Dm) (va vb : Value) : Prop where
  b9 : Box wr g9 33 cs9
  rc : Rf wr va vb E
  ne : g9 ≠ g7
  ge : B ≤ g9
section
variable {B : Nat} {w wr w1 : World} {g7 g9 b c k : Nat} {cs7 cs9 : Array Value} {d dc E : Dm} {va vb v9a v9b : Value}
theorem P0.still (h : P0 B w wr g7 b cs7 d va vb) (hk : Kp (fun _ => False) wr w1) : P0 B w w1 g7 b cs7 d va vb :=
  ⟨h.b7.kp hk fun e => e, h.rf.still hk, h.dk.still hk, h.ge, h.kp.trans hk.of_false, h.sz⟩
theorem Pm.still (h : Pm B w wr g7 b c cs7 d dc va vb k) (hk : Kp (fun _ => False) wr w1) : Pm B w w1 g7 b c cs7 d dc va vb k := by
  obtain ⟨FC, h1, h2, h3⟩ := h.ds
  exact ⟨h.b7.kp hk fun e => e, h.rf.still hk, ⟨FC, h1.still hk, h2.still hk, fun q e => ⟨(h3 q e).1, Nat.lt_of_lt_of_le (h3 q e).2 hk.size⟩⟩, h.ge, h.wt, h.kp.trans hk.of_false, h.sz⟩
theorem Nine.still (h : Nine B wr g7 g9 cs9 E v9a v9b) (hk : Kp (fun _ => False) wr w1) : Nine B w1 g7 g9 cs9 E v9a v9b :=
  ⟨h.b9.kp hk fun e => e, h.rc.still hk, h.ne, h.ge⟩
theorem Nine.dt (h : Nine B wr g7 g9 cs9 E v9a v9b) (hk : Kp (fun q => B ≤ q ∧ DT wr q) wr w1) : Nine B w1 g7 g9 cs9 E v9a v9b :=
  ⟨h.b9.dt hk ⟨by decide, by decide, by decide⟩, h.rc.dt hk, h.ne, h.ge⟩
theorem Pm.p0 (h : Pm B w wr g7 b c cs7 d dc va vb k) : P0 B w wr g7 b cs7 d va vb := by
  obtain ⟨FC, h1, _, _⟩ := h.ds
  exact ⟨h.b7, h.rf, h1.mono fun q e => e.1, h.ge, h.kp, h.sz⟩
/-- The box of the document's disk is told anew. -/
theorem Pm.put {cs' : Array Value} (h : Pm B w wr g7 b c cs7 d dc va vb k) (hb : Box w1 g7 33 cs') (hk : Kp (fun q => q = g7) wr w1) : Pm B w w1 g7 b c cs' d dc va vb k := by
  obtain ⟨FC, h1, h2, h3⟩ := h.ds
  have ht : LT 33 := ⟨by decide, by decide, by decide⟩
  exact ⟨hb, h.rf.store h.b7 hk, ⟨FC, h1.off h.b7 ht hk, h2.off h.b7 ht hk, fun q e => ⟨(h3 q e).1, Nat.lt_of_lt_of_le (h3 q e).2 hk.size⟩⟩, h.ge, h.wt, h.kp.trans (hk.mono fun q _ e => by rw [show q = g7 from e]; exact h.ge), h.sz⟩
theorem Nine.off (h : Nine B wr g7 g9 cs9 E v9a v9b) (hb : Box wr g7 33 cs7) (hk : Kp (fun q => q = g7) wr w1) : Nine B w1 g7 g9 cs9 E v9a v9b :=
  ⟨h.b9.kp hk fun e => h.ne e, h.rc.store hb hk, h.ne, h.ge⟩
theorem Pm.off9 (h : Pm B w wr g7 b c cs7 d dc va vb k) (h9 : Box wr g9 33 cs9) (hne : g9 ≠ g7) (hge : B ≤ g9) (hk : Kp (fun q => q = g9) wr w1) : Pm B w w1 g7 b c cs7 d dc va vb k := by
  obtain ⟨FC, h1, h2, h3⟩ := h.ds
  have ht : LT 33 := ⟨by decide, by decide, by decide⟩
  exact ⟨h.b7.kp hk fun e => hne e.symm, h.rf.store h9 hk, ⟨FC, h1.off h9 ht hk, h2.off h9 ht hk, fun q e => ⟨(h3 q e).1, Nat.lt_of_lt_of_le (h3 q e).2 hk.size⟩⟩, h.ge, h.wt, h.kp.trans (hk.mono fun q _ e => by rw [show q = g9 from e]; exact hge), h.sz⟩
/-- A copy is made. -/
theorem P0.copy (h : P0 B w wr g7 b cs7 d va vb) (hw : d.wait.length ≤ k) :
    Calls Try.prog 10 #[.pointer (some ⟨b, 0, none⟩)] wr fun e w1 => ∃ c, e = .returned (.pointer (some ⟨c, 0, none⟩)) ∧ Pm B w w1 g7 b c cs7 d d va vb k ∧ Kp (fun _ => False) wr w1 := by
  refine (copy_any h.dk).mono ?_
  rintro e w1 ⟨c, rfl, hc, hk⟩
  obtain ⟨FC, hc1, hc2⟩ := hc.fit
  obtain ⟨FD, hd1, hd2⟩ := h.dk.fit
  have hs := h.kp.size
  refine ⟨c, rfl, ⟨h.b7.kp hk fun e => e, h.rf.still hk, ⟨FC, ?_, hc1, fun q e => ⟨?_, (hc2 q e).2⟩⟩, h.ge, hw, h.kp.trans hk.of_false, h.sz⟩, hk⟩
  · refine (hd1.still hk).mono fun q e => ⟨(hd2 q e).1, fun e2 => ?_⟩
    have h1 := (hc2 q e2).1
    have h2 := (hd2 q e).2
    omega
  · have h1 := (hc2 q e).1
    have h2 := h.sz
    omega
/-- An act in both. -/
theorem Pm.does (h : Pm B w wr g7 b c cs7 d dc va vb k) (x : Ac) (hx : x.Ok) (hk : k < 1000) :
    Calls Try.prog 11 #[.pointer (some ⟨b, 0, none⟩), .agg (rcs d va vb), .agg x.cells] wr fun e w1 => ∃ va' vb', e = .returned (.tuple #[.agg (rcs (d.next x) va' vb'), .bool true]) ∧ Pm B w w1 g7 b c cs7 (d.next x) dc va' vb' (k + 1) ∧ Kp (fun q => B ≤ q ∧ DT wr q) wr w1 := by
  obtain ⟨FC, h1, h2, h3⟩ := h.ds
  have hs := h.kp.size
  have hz := h.sz
  have hwt := h.wt
  refine (does_any (G := fun q => B ≤ q ∧ ¬ FC q) (fun q hq => ⟨by omega, fun e => by have := (h3 q e).2; omega⟩) h1 h.rf x hx (by omega)).mono ?_
  rintro e w1 ⟨va', vb', rfl, hr, hd, hk1⟩
  have hk2 : Kp (fun q => B ≤ q ∧ DT wr q) wr w1 := hk1.mono fun q _ e => ⟨e.1.1, e.2⟩
  refine ⟨va', vb', rfl, ⟨h.b7.dt hk2 ⟨by decide, by decide, by decide⟩, hr, ⟨FC, hd, h2.kp hk1 fun q e e2 => e2.1.2 e, fun q e => ⟨(h3 q e).1, Nat.lt_of_lt_of_le (h3 q e).2 hk1.size⟩⟩, h.ge, ?_, h.kp.trans hk2.one', hz⟩, hk2⟩
  have := next_wait d x
  omega
end
end Go.Proofs.Ytbdiebkfkmjjiaa
