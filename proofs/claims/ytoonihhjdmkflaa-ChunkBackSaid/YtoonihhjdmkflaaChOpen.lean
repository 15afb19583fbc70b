/- What came in, read: a chunk. No condition. -/
import Derived.Test.YtoonihhjdmkflaaChMem
import Derived.Test.YtoonihhjdmkflaaByt
namespace Go.Proofs.Ytoonihhjdmkflaa
open Go.ChangeShapes Go.WideShapes Go.ChangeAt Go.RowKit
open Go.Deep (open_slice choose_lt)

theorem ccells_kid : Try.prog.cellsOf 58 = 36 := by kernel_rfl
theorem ccells_ck : Try.prog.cellsOf 32 = 3 := by kernel_rfl
theorem ccells_u8 : Try.prog.cellsOf 5 = 1 := by kernel_rfl
theorem ccells_u32 : Try.prog.cellsOf 44 = 1 := by kernel_rfl
theorem ccells_bool : Try.prog.cellsOf 4 = 1 := by kernel_rfl
theorem ccells_str : Try.prog.cellsOf 9 = 1 := by kernel_rfl
theorem ccells_hash : Try.prog.cellsOf 43 = 32 := by kernel_rfl
theorem ccells_kids : Try.prog.cellsOf 30 = 1 := by kernel_rfl
theorem cu8_lo : IntKind.u8.min = 0 := by decide
theorem cu8_hi : IntKind.u8.max = 255 := by decide
theorem cu32_lo : IntKind.u32.min = 0 := by decide
theorem cu32_hi : IntKind.u32.max = 4294967295 := by decide
section
variable {H : Type} {enc : TypeId × Value → H} {W : World}
theorem open_hash {fuel : Nat} {cs : List Value} {x : DataW H × List MemPlace} (h : DataW.trod enc Try.prog W 0 (fun _ => true) true fuel 43 cs = some x) : ∃ l : List UInt8, l.length = 32 ∧ cs = bcs l := by
  obtain ⟨xs, m, _, _, hl, hn, hel⟩ := DataW.trod_array Try.underlying43 h
  rw [ccells_u8] at hel
  have hcl : cs.length = 32 := by rw [ccells_hash] at hl; exact hl
  obtain ⟨Z, hZ⟩ := choose_lt (α := Int) (n := 32) (p := fun i z => cs[i]? = some (.int .u8 z) ∧ 0 ≤ z ∧ z ≤ 255) (fun i hi => by
    have h0 := hel i hi
    rw [Nat.mul_one] at h0
    have hx : i < xs.length := by omega
    rw [List.getElem?_eq_getElem hx] at h0
    obtain ⟨z, e1, _, hw⟩ := DataW.trod_int Try.underlying5 h0
    simp only [Lit.wf, Bool.and_eq_true, decide_eq_true_eq, cu8_lo, cu8_hi] at hw
    refine ⟨z, ?_, hw.1, hw.2⟩
    have := congrArg (fun l => l[0]?) e1
    simpa [List.getElem?_take, List.getElem?_drop] using this)
  refine ⟨(List.range 32).map fun i => UInt8.ofNat (Z i).toNat, by simp, ?_⟩
  refine List.ext_getElem? fun i => ?_
  rw [bcs_get]
  rcases Nat.lt_or_ge i 32 with hi | hi
  · obtain ⟨h1, h2, h3⟩ := hZ i hi
    rw [h1, List.getElem?_map, List.getElem?_range hi]
    simp only [Option.map_some, UInt8.toNat_ofNat']
    congr 2
    omega
  · rw [List.getElem?_eq_none (by omega), List.getElem?_eq_none (by simp; omega)]
    rfl
theorem split5 {α : Type} (l : List α) (h : l.length = 36) : l = l.take 1 ++ ((l.drop 1).take 1 ++ ((l.drop 2).take 32 ++ ((l.drop 34).take 1 ++ (l.drop 35).take 1))) := by
  have e5 : (l.drop 35).take 1 = l.drop 35 := List.take_of_length_le (by simp; omega)
  have e4 : (l.drop 34).take 1 ++ l.drop 35 = l.drop 34 := by
    have := List.take_append_drop 1 (l.drop 34)
    rwa [List.drop_drop] at this
  have e3 : (l.drop 2).take 32 ++ l.drop 34 = l.drop 2 := by
    have := List.take_append_drop 32 (l.drop 2)
    rwa [List.drop_drop] at this
  have e2 : (l.drop 1).take 1 ++ l.drop 2 = l.drop 1 := by
    have := List.take_append_drop 1 (l.drop 1)
    rwa [List.drop_drop] at this
  rw [e5, e4, e3, e2, List.take_append_drop]
set_option maxRecDepth 100000 in
theorem open_kid {fuel : Nat} {cs : List Value} {x : DataW H × List MemPlace} (h : DataW.trod enc Try.prog W 0 (fun _ => true) true fuel 58 cs = some x) : ∃ k : Kd, k.Ok ∧ cs = kcs k := by
  obtain ⟨ys, n, _, _, hl, hlen, hf⟩ := DataW.trod_struct Try.underlying58 h
  rw [ccells_kid] at hl
  match ys, hlen with
  | [y0, y1, y2, y3, y4], _ =>
    have f0 : DataW.trod enc Try.prog W 0 (fun _ => true) true n 9 ((cs.drop 0).take (Try.prog.cellsOf 9)) = some y0 := hf 0 _ rfl
    rw [ccells_str] at f0
    have f1 : DataW.trod enc Try.prog W 0 (fun _ => true) true n 4 ((cs.drop 1).take (Try.prog.cellsOf 4)) = some y1 := hf 1 _ rfl
    rw [ccells_bool] at f1
    have f2 : DataW.trod enc Try.prog W 0 (fun _ => true) true n 43 ((cs.drop 2).take (Try.prog.cellsOf 43)) = some y2 := hf 2 _ rfl
    rw [ccells_hash] at f2
    have f3 : DataW.trod enc Try.prog W 0 (fun _ => true) true n 5 ((cs.drop 34).take (Try.prog.cellsOf 5)) = some y3 := hf 3 _ rfl
    rw [ccells_u8] at f3
    have f4 : DataW.trod enc Try.prog W 0 (fun _ => true) true n 44 ((cs.drop 35).take (Try.prog.cellsOf 44)) = some y4 := hf 4 _ rfl
    rw [ccells_u32] at f4
    rw [List.drop_zero] at f0
    obtain ⟨s, e0, _, _⟩ := DataW.trod_string Try.underlying9 f0
    obtain ⟨z, e1, _⟩ := DataW.trod_bool Try.underlying4 f1
    obtain ⟨hs, hh, e2⟩ := open_hash f2
    obtain ⟨a, e3, _, w3⟩ := DataW.trod_int Try.underlying5 f3
    obtain ⟨b, e4, _, w4⟩ := DataW.trod_int Try.underlying44 f4
    simp only [Lit.wf, Bool.and_eq_true, decide_eq_true_eq, cu8_lo, cu8_hi, cu32_lo, cu32_hi] at w3 w4
    obtain ⟨a, rfl⟩ := Int.eq_ofNat_of_zero_le (a := a) (by omega)
    obtain ⟨b, rfl⟩ := Int.eq_ofNat_of_zero_le (a := b) (by omega)
    refine ⟨⟨s, z, hs, a, b⟩, ⟨hh, by simp only; omega, by simp only; omega⟩, ?_⟩
    rw [split5 cs hl, e0, e1, e2, e3, e4]
    simp [kcs]
set_option maxRecDepth 100000 in
theorem open_kids {fuel : Nat} {v : Value} {x : DataW H × List MemPlace} (h : DataW.trod enc Try.prog W 0 (fun _ => true) true fuel 30 [v] = some x) :
    ∃ A l c, v = .slice A (List.length (α := Kd) l) c ∧ KsR W A l ∧ (∀ k ∈ l, k.Ok) ∧ l.length ≤ c ∧ c ≤ maxLen := by
  rcases open_slice Try.underlying30 h with ⟨hcs, _⟩ | ⟨ad, len, c, m, n, D, Pl, hcs, _, hl, hm, hmm, _, hi⟩
  · cases hcs
    exact ⟨none, [], 0, rfl, .nil _ _, by simp, Nat.le_refl _, by simp [maxLen]⟩
  · cases hcs
    have hlm : len ≤ m := by rw [hmm]; simp; omega
    rw [ccells_kid] at hi
    obtain ⟨V, hV⟩ := choose_lt (α := Kd) (n := len) (p := fun i y => y.Ok ∧ ∀ j v, (kcs y)[j]? = some v → W.cell? ((ad.add (i * 36)).add j) = some v) (fun i hlt => by
      obtain ⟨cs, hc, ht⟩ := hi i (by omega)
      obtain ⟨_, hcl, hat⟩ := World.cells?_some hc
      obtain ⟨y, hy, hyc⟩ := open_kid ht
      refine ⟨y, hy, fun j v hv => ?_⟩
      have hj : j < 36 := by have := (List.getElem?_eq_some_iff.1 hv).1; rwa [kcs_len hy] at this
      rw [hat j hj, hyc]
      exact hv)
    refine ⟨some ad, (List.range len).map V, c, by simp, ?_, fun x hx => ?_, by simpa using hl, hm⟩
    · rcases Nat.eq_zero_or_pos len with h0 | h0
      · left; subst h0; rfl
      · have h00 := (hV 0 h0).2 0 _ (kcs_name _)
        rw [Nat.zero_mul, add_zero'', add_zero''] at h00
        obtain ⟨b, o, sp⟩ := ad
        have hsp := spot_none' h00
        simp only at hsp
        subst hsp
        refine .inr ⟨b, o, rfl, fun j k hj i v hv => ?_⟩
        have hjl : j < len := by have := (List.getElem?_eq_some_iff.1 hj).1; simpa using this
        rw [List.getElem?_map, List.getElem?_range hjl] at hj
        cases hj
        have := (hV j hjl).2 i v hv
        rw [add_flat', add_flat'] at this
        rwa [show o + 36 * j + i = o + j * 36 + i by omega]
    · obtain ⟨i, hir, rfl⟩ := List.mem_map.1 hx
      exact (hV i (List.mem_range.1 hir)).1
set_option maxRecDepth 100000 in
theorem open_ck {cs : Array Value} {d : DataW H} {p : List MemPlace} (h : DataW.Trod enc Try.prog W 0 (fun _ => true) true 32 (.agg cs) d p) :
    ∃ c A n, cs = ccs c A n ∧ CkR W c A n := by
  obtain ⟨fuel, hf⟩ := h
  obtain ⟨ys, n, _, _, hl, hlen, hf⟩ := DataW.trod_struct Try.underlying32 hf
  rw [ccells_ck] at hl
  obtain ⟨l, rfl⟩ : ∃ l : List Value, cs = l.toArray := ⟨cs.toList, by simp⟩
  simp only [Value.cells, List.toList_toArray] at hl hf
  match l, hl with
  | [v0, v1, v2], _ =>
    match ys, hlen with
    | [y0, y1, y2], _ =>
      have f0 := hf 0 _ rfl
      have f1 := hf 1 _ rfl
      have f2 := hf 2 _ rfl
      simp [ccells_u8] at f0
      simp [ccells_str] at f1
      simp [ccells_kids] at f2
      obtain ⟨q, e0, _, w0⟩ := DataW.trod_int Try.underlying5 f0
      obtain ⟨s, e1, _, _⟩ := DataW.trod_string Try.underlying9 f1
      obtain ⟨A, ks, c, rfl, r1, r2, r3, r4⟩ := open_kids f2
      cases e0; cases e1
      simp only [Lit.wf, Bool.and_eq_true, decide_eq_true_eq, cu8_lo, cu8_hi] at w0
      obtain ⟨q, rfl⟩ := Int.eq_ofNat_of_zero_le (a := q) (by omega)
      exact ⟨⟨q, s, ks⟩, A, c, rfl, ⟨r1, ⟨by simp only; omega, r2⟩, r3, r4⟩⟩
end
end Go.Proofs.Ytoonihhjdmkflaa
