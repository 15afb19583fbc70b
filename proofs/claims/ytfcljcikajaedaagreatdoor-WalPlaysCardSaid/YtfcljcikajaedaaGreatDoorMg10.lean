/- The calls of a disk that the document's words name, each as one contract. Conditions: fewer than 2^30 writes that wait; bytes that are written do not lie among the disk's own writes. -/
import Derived.Test.YtfcljcikajaedaaGreatDoorMg9
namespace Go.Proofs.YtfcljcikajaedaaGreatDoor
open Go.RowKit Go.Maps

def Dm.writeS (d : Dm) (a : Int) (l : List UInt8) : Dm × Int :=
  if !d.power then (d, 4) else if !(secB d a && l.length == 512) then (d, 2) else if d.out then (d.lose d.keep, 4) else (d.act.push a.toNat l, 0)
def Dm.readS (d : Dm) (a : Int) : List UInt8 × Int := if !d.power then ([], 4) else if !secB d a then ([], 2) else (d.nowAt a.toNat, 0)
section
variable {w : World} {b : Nat} {d : Dm} {F : Nat → Prop}
theorem write_any (hF : ∀ k, w.heap.size ≤ k → F k) (hD : Dsk F w b d) (a : Int) (A : Option Addr) (l : List UInt8) (c : Nat) (hr : Rd w A l) (hbt : ∀ ad, A = some ad → ∀ cs fr, w.heap[ad.block]? ≠ some (.cells cs 157 fr)) (hw : d.wait.length + 1 < 1073741824) :
    Calls Tryz.prog 68 #[.pointer (some ⟨b, 0, none⟩), .int .i64 a, .slice A l.length c] w fun e w' => e = .returned (.int .i64 (d.writeS a l).2) ∧ Dsk F w' b (d.writeS a l).1 ∧ Kp F w w' := by
  rcases hp : d.power with _ | _
  · refine (write_dead hD a A l.length c hp).mono fun e w' ⟨he, hk⟩ => ?_
    have hx : d.writeS a l = (d, 4) := by simp [Dm.writeS, hp]
    rw [hx]
    exact ⟨he, hD.still hk, hk.of_false⟩
  rcases hs : secB d a with _ | _
  · refine (write_arg1 hD a A l.length c hp hs).mono fun e w' ⟨he, hk⟩ => ?_
    have hx : d.writeS a l = (d, 2) := by simp [Dm.writeS, hp, hs]
    rw [hx]
    exact ⟨he, hD.still hk, hk.of_false⟩
  rcases hf : (((l.length : Nat) : Int) == 512) with _ | _
  · refine (write_arg2 hD a A l.length c hp hs hf).mono fun e w' ⟨he, hk⟩ => ?_
    have hne : l.length ≠ 512 := by intro e; rw [e] at hf; cases hf
    have hx : d.writeS a l = (d, 2) := by simp [Dm.writeS, hp, hne]
    rw [hx]
    exact ⟨he, hD.still hk, hk.of_false⟩
  have hl : l.length = 512 := by have := eq_of_beq hf; omega
  rcases ho : d.out with _ | _
  · have hs2 : 0 ≤ a ∧ a < d.on.length := by simpa [secB] using hs
    rcases hr with e | ⟨bb, bo, rfl, hc⟩
    · rw [e] at hl; cases hl
    have ha : ((a.toNat : Nat) : Int) = a := by omega
    have := write_ok hF hD a.toNat l bb bo c hp (by omega) hl ho (fun j v hj => by
      rw [bcs_get] at hj
      obtain ⟨u, hu, rfl⟩ := Option.map_eq_some_iff.1 hj
      exact hc j u hu) (hbt ⟨bb, bo, none⟩ rfl) hw
    rw [ha, ← hl] at this
    have hx : d.writeS a l = (d.act.push a.toNat l, 0) := by simp [Dm.writeS, hp, hs, hl, ho]
    rw [hx]
    exact this
  · refine (write_out hD a A l.length c hp hs hf ho).mono fun e w' ⟨he, hd, hk⟩ => ?_
    have hx : d.writeS a l = (d.lose d.keep, 4) := by simp [Dm.writeS, hp, hs, hl, ho]
    rw [hx]
    exact ⟨he, hd, hk⟩
/-- What is read is new. -/
theorem read_any (hD : Dsk F w b d) (a : Int) :
    Calls Tryz.prog 64 #[.pointer (some ⟨b, 0, none⟩), .int .i64 a] w fun e w' => ∃ A, e = .returned (.tuple #[.slice A (d.readS a).1.length (d.readS a).1.length, .int .i64 (d.readS a).2]) ∧ Rd w' A (d.readS a).1 ∧ Kp (fun _ => False) w w' := by
  rcases hp : d.power with _ | _
  · refine (read_dead hD a hp).mono fun e w' ⟨he, hk⟩ => ?_
    have hx : d.readS a = ([], 4) := by simp [Dm.readS, hp]
    rw [hx]
    exact ⟨none, he, .inl rfl, hk⟩
  rcases hs : secB d a with _ | _
  · refine (read_arg hD a hp hs).mono fun e w' ⟨he, hk⟩ => ?_
    have hx : d.readS a = ([], 2) := by simp [Dm.readS, hp, hs]
    rw [hx]
    exact ⟨none, he, .inl rfl, hk⟩
  have hs2 : 0 ≤ a ∧ a < d.on.length := by simpa [secB] using hs
  have ha : ((a.toNat : Nat) : Int) = a := by omega
  have := read_ok hD a.toNat hp (by omega)
  rw [ha] at this
  refine this.mono fun e w' ⟨g, he, hb, _, hk⟩ => ?_
  have hx : d.readS a = (d.nowAt a.toNat, 0) := by simp [Dm.readS, hp, hs]
  obtain ⟨_, _, _, hdk, _⟩ := hD
  have hl := nowAt_length hdk.ok a.toNat (by omega)
  rw [hx]
  dsimp only
  rw [hl]
  refine ⟨some ⟨g, 0, none⟩, he, .inr ⟨g, 0, rfl, fun j u hj => ?_⟩, hk⟩
  rw [hb.cell, Nat.zero_add]
  simp [bcs_get, hj]
/-- What is on the disk is new. -/
theorem raw_any (hD : Dsk F w b d) (a : Int) :
    Calls Tryz.prog 9 #[.pointer (some ⟨b, 0, none⟩), .int .i64 a] w fun e w' => ∃ A, e = .returned (.slice A (if secB d a then d.rawAt a.toNat else []).length (if secB d a then d.rawAt a.toNat else []).length) ∧ Rd w' A (if secB d a then d.rawAt a.toNat else []) ∧ Kp (fun _ => False) w w' := by
  rcases hs : secB d a with _ | _
  · exact (raw_no hD a hs).mono fun e w' ⟨he, hk⟩ => ⟨none, he, .inl rfl, hk⟩
  have hs2 : 0 ≤ a ∧ a < d.on.length := by simpa [secB] using hs
  have ha : ((a.toNat : Nat) : Int) = a := by omega
  have := raw_yes hD a.toNat (by omega)
  rw [ha] at this
  refine this.mono fun e w' ⟨g, he, hb, _, hk⟩ => ?_
  obtain ⟨_, _, _, hdk, _⟩ := hD
  have hl := rawAt_length hdk.ok a.toNat (by omega)
  rw [if_pos rfl, hl]
  refine ⟨some ⟨g, 0, none⟩, he, .inr ⟨g, 0, rfl, fun j u hj => ?_⟩, hk⟩
  rw [hb.cell, Nat.zero_add]
  simp [bcs_get, hj]
end
end Go.Proofs.YtfcljcikajaedaaGreatDoor

/- A sector of one byte, and what an act hands to a write. No condition. -/
namespace Go.Proofs.YtfcljcikajaedaaGreatDoor
open Go.RowKit Go.Maps

def fullL (c : UInt8) : List UInt8 := List.replicate 512 c
theorem fullL_length (c : UInt8) : (fullL c).length = 512 := List.length_replicate
def fullAt (c : UInt8) (k : Nat) : List UInt8 := List.replicate k c ++ List.replicate (512 - k) 0
theorem fullAt_length (c : UInt8) (k : Nat) (h : k ≤ 512) : (fullAt c k).length = 512 := by simp only [fullAt, List.length_append, List.length_replicate]; omega
theorem fullAt_get (c : UInt8) (k : Nat) (h : k < 512) : (fullAt c k)[k]? = some 0 := by
  rw [fullAt, List.getElem?_append_right (by simp), List.length_replicate, Nat.sub_self, List.getElem?_replicate_of_lt (by omega)]
theorem fullAt_set (c : UInt8) (k : Nat) (h : k < 512) : (fullAt c k).set k c = fullAt c (k + 1) := by
  rw [fullAt, fullAt, List.set_append_right _ _ (by simp), List.length_replicate, Nat.sub_self]
  obtain ⟨m, hm⟩ : ∃ m, 512 - k = m + 1 := ⟨511 - k, by omega⟩
  rw [hm, show 512 - (k + 1) = m by omega, List.replicate_succ, List.replicate_succ']
  simp
theorem fullAt_end (c : UInt8) : fullAt c 512 = fullL c := by
  rw [fullAt, fullL, Nat.sub_self, List.replicate_zero, List.append_nil]
theorem bcs_set (l : List UInt8) (k : Nat) (c : UInt8) : (bcs l).toArray.setIfInBounds k (.int .u8 c.toNat) = (bcs (l.set k c)).toArray := by
  rw [List.setIfInBounds_toArray]
  congr 1
  simp [bcs, List.map_set]
theorem u8Info : ∃ i, Tryz.prog.info? 5 = some i ∧ i.zero = some (.int .u8 0) ∧ i.size = 1 ∧ i.bytes = 1 := by
  have h : (Tryz.prog.info? 5).map (fun i => (i.zero, i.size, i.bytes)) = some (some (.int .u8 0), 1, 1) := by kernel_rfl
  obtain ⟨i, h1, h2, h3, h4⟩ := info_parts h
  exact ⟨i, h1, h2, h3, h4⟩

/-- Bytes that are new. -/
def NewB (w w' : World) (A : Option Addr) (l : List UInt8) : Prop := ∃ g o cs, A = some ⟨g, o, none⟩ ∧ w.heap.size ≤ g ∧ Box w' g 5 cs ∧ Rd w' A l
theorem NewB.rd {w w' : World} {A : Option Addr} {l : List UInt8} (h : NewB w w' A l) : Rd w' A l := by
  obtain ⟨g, o, cs, _, _, _, hr⟩ := h
  exact hr
theorem NewB.off {w w' : World} {A : Option Addr} {l : List UInt8} (h : NewB w w' A l) : ∀ ad, A = some ad → ∀ cs fr, w'.heap[ad.block]? ≠ some (.cells cs 157 fr) := by
  obtain ⟨g, o, cs, rfl, _, hb, _⟩ := h
  rintro ad e cs fr hh
  cases e
  unfold Box at hb
  rw [hb] at hh
  injection hh with hh
  injection hh with _ h2
  exact absurd h2 (by decide)
theorem NewB.of_box {w w' : World} {g : Nat} {l : List UInt8} (hb : Box w' g 5 (bcs l).toArray) (hg : w.heap.size ≤ g) : NewB w w' (some ⟨g, 0, none⟩) l :=
  ⟨g, 0, _, rfl, hg, hb, .inr ⟨g, 0, rfl, fun j u hj => by rw [hb.cell, Nat.zero_add]; simp [bcs_get, hj]⟩⟩
/-- What an act hands to a write. -/
def dataL (c : UInt8) (short : Bool) : List UInt8 := if short then List.replicate 511 c else fullL c
theorem dataL_true (c : UInt8) : dataL c true = List.replicate 511 c := rfl
theorem dataL_false (c : UInt8) : dataL c false = fullL c := rfl
end Go.Proofs.YtfcljcikajaedaaGreatDoor
