/- The calls of a disk that the document's words name, each as one contract. Conditions: fewer than 2^30 writes that wait; bytes that are written do not lie among the disk's own writes. -/
import Derived.Test.YtfcljcikajaedaaDoorMg23
namespace Go.Proofs.YtfcljcikajaedaaDoor
open Go.RowKit Go.Maps

def Dm.writeS (d : Dm) (a : Int) (l : List UInt8) : Dm × Int :=
  if !d.power then (d, 4) else if !(secB d a && l.length == 512) then (d, 2) else if d.out then (d.lose d.keep, 4) else (d.act.push a.toNat l, 0)
def Dm.readS (d : Dm) (a : Int) : List UInt8 × Int := if !d.power then ([], 4) else if !secB d a then ([], 2) else (d.nowAt a.toNat, 0)
section
variable {w : World} {b : Nat} {d : Dm} {F : Nat → Prop}
theorem write_any (hF : ∀ k, w.heap.size ≤ k → F k) (hD : Dsk F w b d) (a : Int) (A : Option Addr) (l : List UInt8) (c : Nat) (hr : Rd w A l) (hbt : ∀ ad, A = some ad → ∀ cs fr, w.heap[ad.block]? ≠ some (.cells cs 94 fr)) (hw : d.wait.length + 1 < 1073741824) :
    Calls Tryd.prog 33 #[.pointer (some ⟨b, 0, none⟩), .int .i64 a, .slice A l.length c] w fun e w' => e = .returned (.int .i64 (d.writeS a l).2) ∧ Dsk F w' b (d.writeS a l).1 ∧ Kp F w w' := by
  rcases hp : d.power with _ | _
  · refine (write_dead hD a A l.length c hp).mono fun e w' ⟨he, hk⟩ => ?_
    have hx : d.writeS a l = (d, 4) := by simp [Dm.writeS, hp]
    rw [hx]
    exact ⟨he, hD.still hk, hk.of_false⟩
  rcases hs : secB d a with _ | _
  · refine (write_arg1 hD a A l.length c hp hs).mono fun e w' ⟨he, hk⟩ => ?_
    have hx : d.writeS a l = (d, 2) := by simp [Dm.writeS, hp, hs]
    rw [hx]
    exact ⟨he, hD.still hk, hk.of_false⟩
  rcases hf : (((l.length : Nat) : Int) == 512) with _ | _
  · refine (write_arg2 hD a A l.length c hp hs hf).mono fun e w' ⟨he, hk⟩ => ?_
    have hne : l.length ≠ 512 := by intro e; rw [e] at hf; cases hf
    have hx : d.writeS a l = (d, 2) := by simp [Dm.writeS, hp, hne]
    rw [hx]
    exact ⟨he, hD.still hk, hk.of_false⟩
  have hl : l.length = 512 := by have := eq_of_beq hf; omega
  rcases ho : d.out with _ | _
  · have hs2 : 0 ≤ a ∧ a < d.on.length := by simpa [secB] using hs
    rcases hr with e | ⟨bb, bo, rfl, hc⟩
    · rw [e] at hl; cases hl
    have ha : ((a.toNat : Nat) : Int) = a := by omega
    have := write_ok hF hD a.toNat l bb bo c hp (by omega) hl ho (fun j v hj => by
      rw [bcs_get] at hj
      obtain ⟨u, hu, rfl⟩ := Option.map_eq_some_iff.1 hj
      exact hc j u hu) (hbt ⟨bb, bo, none⟩ rfl) hw
    rw [ha, ← hl] at this
    have hx : d.writeS a l = (d.act.push a.toNat l, 0) := by simp [Dm.writeS, hp, hs, hl, ho]
    rw [hx]
    exact this
  · refine (write_out hD a A l.length c hp hs hf ho).mono fun e w' ⟨he, hd, hk⟩ => ?_
    have hx : d.writeS a l = (d.lose d.keep, 4) := by simp [Dm.writeS, hp, hs, hl, ho]
    rw [hx]
    exact ⟨he, hd, hk⟩
/-- What is read is new. -/
theorem read_any (hD : Dsk F w b d) (a : Int) :
    Calls Tryd.prog 27 #[.pointer (some ⟨b, 0, none⟩), .int .i64 a] w fun e w' => ∃ A, e = .returned (.tuple #[.slice A (d.readS a).1.length (d.readS a).1.length, .int .i64 (d.readS a).2]) ∧ Rd w' A (d.readS a).1 ∧ Kp (fun _ => False) w w' := by
  rcases hp : d.power with _ | _
  · refine (read_dead hD a hp).mono fun e w' ⟨he, hk⟩ => ?_
    have hx : d.readS a = ([], 4) := by simp [Dm.readS, hp]
    rw [hx]
    exact ⟨none, he, .inl rfl, hk⟩
  rcases hs : secB d a with _ | _
  · refine (read_arg hD a hp hs).mono fun e w' ⟨he, hk⟩ => ?_
    have hx : d.readS a = ([], 2) := by simp [Dm.readS, hp, hs]
    rw [hx]
    exact ⟨none, he, .inl rfl, hk⟩
  have hs2 : 0 ≤ a ∧ a < d.on.length := by simpa [secB] using hs
  have ha : ((a.toNat : Nat) : Int) = a := by omega
  have := read_ok hD a.toNat hp (by omega)
  rw [ha] at this
  refine this.mono fun e w' ⟨g, he, hb, _, hk⟩ => ?_
  have hx : d.readS a = (d.nowAt a.toNat, 0) := by simp [Dm.readS, hp, hs]
  obtain ⟨_, _, _, hdk, _⟩ := hD
  have hl := nowAt_length hdk.ok a.toNat (by omega)
  rw [hx]
  dsimp only
  rw [hl]
  refine ⟨some ⟨g, 0, none⟩, he, .inr ⟨g, 0, rfl, fun j u hj => ?_⟩, hk⟩
  rw [hb.cell, Nat.zero_add]
  simp [bcs_get, hj]
end
end Go.Proofs.YtfcljcikajaedaaDoor
