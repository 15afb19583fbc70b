/- What came in, read: a sheet, a slice of sheets. No condition. -/
import Derived.Test.YtdacjhgjaneeeaaDoorShPuts
import Derived.Test.YtdacjhgjaneeeaaDoorByt
namespace Go.Proofs.YtdacjhgjaneeeaaDoor
open Go.ChangeShapes Go.WideShapes Go.ChangeAt Go.RowKit
open Go.Deep (open_slice choose_lt)

theorem cells_item : Tryd.prog.cellsOf 24 = 3 := by kernel_rfl
theorem cells_u64 : Tryd.prog.cellsOf 22 = 1 := by kernel_rfl
theorem cells_bool : Tryd.prog.cellsOf 4 = 1 := by kernel_rfl
theorem cells_str : Tryd.prog.cellsOf 9 = 1 := by kernel_rfl
theorem u64_lo : IntKind.u64.min = 0 := by decide
theorem u64_hi : IntKind.u64.max = 18446744073709551615 := by decide

section
variable {H : Type} {enc : TypeId × Value → H} {W : World}
theorem RdS.mk {w : World} {b o : Nat} {l : List Sh} (h : ∀ (i : Nat) (hi : i < l.length) (j : Nat) (v : Value), (cells3 l[i])[j]? = some v → w.cell? ⟨b, o + i * 3 + j, none⟩ = some v) : RdS w (some ⟨b, o, none⟩) l :=
  .inr ⟨b, o, rfl, fun j v hj => by
    have hjl : j < l.length * 3 := by have := (List.getElem?_eq_some_iff.1 hj).1; rwa [rowS_length] at this
    have e : j = 3 * (j / 3) + j % 3 := by omega
    rw [e, rowS_get l (j / 3) (by omega) (j % 3) (Nat.mod_lt _ (by decide))] at hj
    have := h (j / 3) (by omega) (j % 3) v hj
    rwa [show o + j / 3 * 3 + j % 3 = o + j by omega] at this⟩
instance : Inhabited Sh := ⟨⟨0, false, []⟩⟩
set_option maxRecDepth 100000 in
theorem open_item {fuel : Nat} {cs : List Value} {x : DataW H × List MemPlace} (h : DataW.trod enc Tryd.prog W 0 (fun _ => true) true fuel 24 cs = some x) :
    ∃ y : Sh, y.q < 18446744073709551616 ∧ cs = (cells3 y).toList := by
  obtain ⟨ys, n, _, _, hl, hlen, hf⟩ := DataW.trod_struct Tryd.underlying24 h
  rw [cells_item] at hl
  match cs, hl with
  | [v0, v1, v2], _ =>
    match ys, hlen with
    | [y0, y1, y2], _ =>
      have f0 := hf 0 _ rfl
      have f1 := hf 1 _ rfl
      have f2 := hf 2 _ rfl
      simp [cells_u64] at f0
      simp [cells_bool] at f1
      simp [cells_str] at f2
      obtain ⟨q, e0, _, w0⟩ := DataW.trod_int Tryd.underlying22 f0
      obtain ⟨z, e1, _⟩ := DataW.trod_bool Tryd.underlying4 f1
      obtain ⟨s, e2, _, w2⟩ := DataW.trod_string Tryd.underlying9 f2
      cases e0; cases e1; cases e2
      simp only [Lit.wf, Bool.and_eq_true, decide_eq_true_eq, u64_lo, u64_hi] at w0
      obtain ⟨m, rfl⟩ := Int.eq_ofNat_of_zero_le (a := q) (by omega)
      have hs : (⟨s.data.toList.toArray⟩ : ByteArray) = s := by cases s; simp
      refine ⟨⟨m, z, s.data.toList⟩, by simp only; omega, ?_⟩
      simp only [cells3, hs]

theorem open_sheet {cs : Array Value} {d : DataW H} {p : List MemPlace} (h : DataW.Trod enc Tryd.prog W 0 (fun _ => true) true 24 (.agg cs) d p) :
    ∃ y : Sh, y.q < 18446744073709551616 ∧ cs = cells3 y := by
  obtain ⟨fuel, hf⟩ := h
  obtain ⟨y, hy, hc⟩ := open_item hf
  refine ⟨y, hy, ?_⟩
  have : cs.toList = (cells3 y).toList := by simpa [Value.cells] using hc
  exact Array.toList_inj.1 this

set_option maxRecDepth 100000 in
theorem open_items {a : Option Addr} {len cap : Nat} {d : DataW H} {p : List MemPlace} (h : DataW.Trod enc Tryd.prog W 0 (fun _ => true) true 38 (.slice a len cap) d p) :
    ∃ l : List Sh, l.length = len ∧ len ≤ cap ∧ cap ≤ maxLen ∧ (∀ s ∈ l, s.q < 18446744073709551616) ∧ RdS W a l := by
  obtain ⟨fuel, hf⟩ := h
  rcases open_slice Tryd.underlying38 hf with ⟨hcs, _⟩ | ⟨ad, l, c, m, n, D, Pl, hcs, _, hl, hm, hmm, _, hi⟩
  · simp [Value.cells] at hcs
    obtain ⟨rfl, rfl, rfl⟩ := hcs
    exact ⟨[], rfl, Nat.le_refl _, by simp [maxLen], by simp, .inl rfl⟩
  · simp [Value.cells] at hcs
    obtain ⟨rfl, rfl, rfl⟩ := hcs
    have hlm : len ≤ m := by rw [hmm]; simp; omega
    rw [cells_item] at hi
    obtain ⟨V, hV⟩ := choose_lt (α := Sh) (n := len) (p := fun i y => y.q < 18446744073709551616 ∧ ∀ j v, (cells3 y)[j]? = some v → W.cell? ((ad.add (i * 3)).add j) = some v) (fun i hlt => by
      obtain ⟨cs, hc, ht⟩ := hi i (by omega)
      obtain ⟨_, hcl, hat⟩ := World.cells?_some hc
      obtain ⟨y, hy, hyc⟩ := open_item ht
      refine ⟨y, hy, fun j v hv => ?_⟩
      have hj : j < 3 := (Array.getElem?_eq_some_iff.1 hv).1
      rw [hat j hj, hyc]
      simpa using hv)
    refine ⟨(List.range len).map V, by simp, hl, hm, fun x hx => ?_, ?_⟩
    · obtain ⟨i, hir, rfl⟩ := List.mem_map.1 hx
      exact (hV i (List.mem_range.1 hir)).1
    · rcases Nat.eq_zero_or_pos len with h0 | h0
      · left; subst h0; rfl
      · have h00 := (hV 0 h0).2 0 _ rfl
        rw [Nat.zero_mul, add_zero'', add_zero''] at h00
        obtain ⟨b, o, sp⟩ := ad
        have hsp := spot_none' h00
        simp only at hsp
        subst hsp
        refine RdS.mk fun i hi j v hv => ?_
        have hil : i < len := by simpa using hi
        simp only [List.getElem_map, List.getElem_range] at hv
        have := (hV i hil).2 j v hv
        rwa [add_flat', add_flat'] at this

end
end Go.Proofs.YtdacjhgjaneeeaaDoor
