/- What came in, read: a slice of items. No condition. -/
import Derived.Test.YtcgfnfejacgaeaaDoorRcItem
import Derived.Test.YtcgfnfejacgaeaaDoorByt
namespace Go.Proofs.YtcgfnfejacgaeaaDoor
open Go.ChangeShapes Go.WideShapes Go.ChangeAt Go.RowKit
open Go.Deep (open_slice choose_lt)

theorem rcells_im : Tryd.prog.cellsOf 41 = 2 := by kernel_rfl
theorem rcells_u8 : Tryd.prog.cellsOf 5 = 1 := by kernel_rfl
theorem rcells_str : Tryd.prog.cellsOf 9 = 1 := by kernel_rfl
instance : Inhabited Im := ⟨⟨0, ByteArray.empty⟩⟩
section
variable {H : Type} {enc : TypeId × Value → H} {W : World}
set_option maxRecDepth 100000 in
theorem open_im {fuel : Nat} {cs : List Value} {x : DataW H × List MemPlace} (h : DataW.trod enc Tryd.prog W 0 (fun _ => true) true fuel 41 cs = some x) :
    ∃ y : Im, cs = [.int .u8 y.x.toNat, .string y.d] := by
  obtain ⟨ys, n, _, _, hl, hlen, hf⟩ := DataW.trod_struct Tryd.underlying41 h
  rw [rcells_im] at hl
  match cs, hl with
  | [v0, v1], _ =>
    match ys, hlen with
    | [y0, y1], _ =>
      have f0 := hf 0 _ rfl
      have f1 := hf 1 _ rfl
      simp [rcells_u8] at f0
      simp [rcells_str] at f1
      obtain ⟨d, e0, _, w0⟩ := DataW.trod_int Tryd.underlying5 f0
      obtain ⟨s, e1, _, _⟩ := DataW.trod_string Tryd.underlying9 f1
      cases e0; cases e1
      simp only [Lit.wf, Bool.and_eq_true, decide_eq_true_eq] at w0
      rw [show IntKind.u8.min = 0 by decide, show IntKind.u8.max = 255 by decide] at w0
      obtain ⟨m, rfl⟩ := Int.eq_ofNat_of_zero_le (a := d) (by omega)
      exact ⟨⟨UInt8.ofNat m, s⟩, by simp only [UInt8.toNat_ofNat']; congr 2; omega⟩
set_option maxRecDepth 100000 in
theorem open_ims {a : Option Addr} {len cap : Nat} {d : DataW H} {p : List MemPlace} (h : DataW.Trod enc Tryd.prog W 0 (fun _ => true) true 38 (.slice a len cap) d p) :
    ∃ l : List Im, l.length = len ∧ RdI W a l := by
  obtain ⟨fuel, hf⟩ := h
  rcases open_slice Tryd.underlying38 hf with ⟨hcs, _⟩ | ⟨ad, l, c, m, n, D, Pl, hcs, _, hl, hm, hmm, _, hi⟩
  · simp [Value.cells] at hcs
    obtain ⟨rfl, rfl, rfl⟩ := hcs
    exact ⟨[], rfl, .inl rfl⟩
  · simp [Value.cells] at hcs
    obtain ⟨rfl, rfl, rfl⟩ := hcs
    have hlm : len ≤ m := by rw [hmm]; simp; omega
    rw [rcells_im] at hi
    obtain ⟨V, hV⟩ := choose_lt (α := Im) (n := len) (p := fun i y => W.cell? ((ad.add (i * 2)).add 0) = some (.int .u8 y.x.toNat) ∧ W.cell? ((ad.add (i * 2)).add 1) = some (.string y.d)) (fun i hlt => by
      obtain ⟨cs, hc, ht⟩ := hi i (by omega)
      obtain ⟨_, hcl, hat⟩ := World.cells?_some hc
      obtain ⟨y, rfl⟩ := open_im ht
      exact ⟨y, hat 0 (by decide), hat 1 (by decide)⟩)
    refine ⟨(List.range len).map V, by simp, ?_⟩
    rcases Nat.eq_zero_or_pos len with h0 | h0
    · left; subst h0; rfl
    · right
      have h00 := (hV 0 h0).1
      rw [Nat.zero_mul, add_zero'', add_zero''] at h00
      obtain ⟨b, o, sp⟩ := ad
      have hsp := spot_none' h00
      simp only at hsp
      subst hsp
      refine ⟨b, o, rfl, fun i y hy => ?_⟩
      have hil : i < len := by
        have := (List.getElem?_eq_some_iff.1 hy).1
        simpa using this
      simp [hil] at hy
      subst hy
      obtain ⟨h1, h2⟩ := hV i hil
      rw [add_flat', add_flat'] at h1 h2
      exact ⟨h1, h2⟩
end
end Go.Proofs.YtcgfnfejacgaeaaDoor
