/- What came in, read: a slice of things, a slice of bytes. No condition. -/
import Derived.Test.YtapohcjohndedaaItems
import Derived.ProofKit
import Derived.Deep.Slices
import Derived.Deep.Fields
import Derived.ChangeSame
import Derived.ChangeOld
namespace Go.Proofs.Ytapohcjohndedaa
open Go.ChangeShapes Go.WideShapes Go.ChangeAt Go.RowKit
open Go.Deep (open_slice choose_lt)

theorem cells_item : Try.prog.cellsOf 27 = 4 := by kernel_rfl
theorem cells_u8 : Try.prog.cellsOf 5 = 1 := by kernel_rfl
theorem cells_int : Try.prog.cellsOf 3 = 1 := by kernel_rfl
theorem cells_u64 : Try.prog.cellsOf 25 = 1 := by kernel_rfl
theorem cells_str : Try.prog.cellsOf 9 = 1 := by kernel_rfl

theorem u8_lo : IntKind.u8.min = 0 := by decide
theorem u8_hi : IntKind.u8.max = 255 := by decide
theorem i64_lo : IntKind.i64.min = -9223372036854775808 := by decide
theorem i64_hi : IntKind.i64.max = 9223372036854775807 := by decide
theorem u64_lo : IntKind.u64.min = 0 := by decide
theorem u64_hi : IntKind.u64.max = 18446744073709551615 := by decide

theorem spot_none {w : World} {a : Addr} {v : Value} (h : w.cell? a = some v) : a.spot = none := by
  unfold World.cell? at h
  split at h
  · split at h
    · cases h
    · next hs => simpa using hs
  · cases h
theorem add_zero' (a : Addr) : a.add 0 = a := by unfold Addr.add; simp
theorem add_flat (b o n : Nat) : (⟨b, o, none⟩ : Addr).add n = ⟨b, o + n, none⟩ := by unfold Addr.add; split <;> simp_all

section
variable {H : Type} {enc : TypeId × Value → H} {W : World}

instance : Inhabited It := ⟨⟨0, 0, 0, ByteArray.empty⟩⟩

theorem open_item {fuel : Nat} {cs : List Value} {x : DataW H × List MemPlace} (h : DataW.trod enc Try.prog W 0 (fun _ => true) true fuel 27 cs = some x) :
    ∃ y : It, y.Ok ∧ cs = y.cells.toList := by
  obtain ⟨ys, n, _, _, hl, hlen, hf⟩ := DataW.trod_struct Try.underlying27 h
  rw [cells_item] at hl
  match cs, hl with
  | [v0, v1, v2, v3], _ =>
    match ys, hlen with
    | [y0, y1, y2, y3], _ =>
      have f0 := hf 0 _ rfl
      have f1 := hf 1 _ rfl
      have f2 := hf 2 _ rfl
      have f3 := hf 3 _ rfl
      simp [cells_u8] at f0
      simp [cells_int] at f1
      simp [cells_u64] at f2
      simp [cells_str] at f3
      obtain ⟨d, e0, _, w0⟩ := DataW.trod_int Try.underlying5 f0
      obtain ⟨wd, e1, _, w1⟩ := DataW.trod_int Try.underlying3 f1
      obtain ⟨n, e2, _, w2⟩ := DataW.trod_int Try.underlying25 f2
      obtain ⟨s, e3, _, w3⟩ := DataW.trod_string Try.underlying9 f3
      cases e0; cases e1; cases e2; cases e3
      simp only [Lit.wf, Bool.and_eq_true, decide_eq_true_eq, u8_lo, u8_hi, i64_lo, i64_hi, u64_lo, u64_hi] at w0 w1 w2
      obtain ⟨m, rfl⟩ := Int.eq_ofNat_of_zero_le (a := n) (by omega)
      exact ⟨⟨d, wd, m, s⟩, ⟨by simp only; omega, by simp only; omega, by simp only; omega, by simp only; omega, by simp only; omega, w3⟩, rfl⟩

/-- A slice of things that came in. -/
theorem open_items {a : Option Addr} {len cap : Nat} {d : DataW H} {p : List MemPlace} (h : DataW.Trod enc Try.prog W 0 (fun _ => true) true 22 (.slice a len cap) d p) :
    ∃ l : List It, l.length = len ∧ len ≤ cap ∧ cap ≤ maxLen ∧ Its W W.heap.size a l := by
  obtain ⟨fuel, hf⟩ := h
  rcases open_slice Try.underlying22 hf with ⟨hcs, _⟩ | ⟨ad, l, c, m, n, D, Pl, hcs, _, hl, hm, hmm, _, hi⟩
  · simp [Value.cells] at hcs
    obtain ⟨rfl, rfl, rfl⟩ := hcs
    exact ⟨[], rfl, Nat.le_refl _, by simp [maxLen], by simp, .inl rfl⟩
  · simp [Value.cells] at hcs
    obtain ⟨rfl, rfl, rfl⟩ := hcs
    have hlm : len ≤ m := by rw [hmm]; simp; omega
    rw [cells_item] at hi
    obtain ⟨V, hV⟩ := choose_lt (α := It) (n := len) (p := fun i y => y.Ok ∧ ∀ j v, y.cells[j]? = some v → W.cell? ((ad.add (i * 4)).add j) = some v) (fun i hlt => by
      obtain ⟨cs, hc, ht⟩ := hi i (by omega)
      obtain ⟨_, hcl, hat⟩ := World.cells?_some hc
      obtain ⟨y, hy, hyc⟩ := open_item ht
      refine ⟨y, hy, fun j v hv => ?_⟩
      have hj : j < 4 := (Array.getElem?_eq_some_iff.1 hv).1
      rw [hat j hj, hyc]
      simpa using hv)
    refine ⟨(List.range len).map V, by simp, hl, hm, fun x hx => ?_, ?_⟩
    · obtain ⟨i, hir, rfl⟩ := List.mem_map.1 hx
      exact (hV i (List.mem_range.1 hir)).1
    · rcases Nat.eq_zero_or_pos len with h0 | h0
      · left; subst h0; rfl
      · right
        have h00 := (hV 0 h0).2 0 _ rfl
        rw [Nat.zero_mul, add_zero', add_zero'] at h00
        obtain ⟨b, o, sp⟩ := ad
        have hsp := spot_none h00
        simp only at hsp
        subst hsp
        refine ⟨b, o, rfl, World.block_lt_of_cell? _ _ h00, fun i x hx j v hv => ?_⟩
        have hil : i < len := by
          have := (List.getElem?_eq_some_iff.1 hx).1
          simpa using this
        simp [hil] at hx
        subst hx
        have := (hV i hil).2 j v hv
        rwa [add_flat, add_flat] at this

/-- A slice of bytes that came in. -/
theorem open_bytes {a : Option Addr} {len cap : Nat} {d : DataW H} {p : List MemPlace} (h : DataW.Trod enc Try.prog W 0 (fun _ => true) true 33 (.slice a len cap) d p) :
    ∃ l : List UInt8, l.length = len ∧ len ≤ cap ∧ cap ≤ maxLen ∧ Rd W a l := by
  obtain ⟨fuel, hf⟩ := h
  rcases open_ints Try.underlying33 Try.underlying5 (by kernel_rfl) hf with ⟨hcs, _⟩ | ⟨ad, l, c, zs, hcs, _, hl, hm, hz, _, hcell, hwz⟩
  · simp [Value.cells] at hcs
    obtain ⟨rfl, rfl, rfl⟩ := hcs
    exact ⟨[], rfl, Nat.le_refl _, by simp [maxLen], .inl rfl⟩
  · simp [Value.cells] at hcs
    obtain ⟨rfl, rfl, rfl⟩ := hcs
    simp at hz
    refine ⟨(zs.take len).map fun z => UInt8.ofNat z.toNat, by simp; omega, hl, hm, ?_⟩
    rcases Nat.eq_zero_or_pos len with h0 | h0
    · left; subst h0; rfl
    · right
      have h00 := hcell 0 (by omega)
      rw [add_zero'] at h00
      obtain ⟨b, o, sp⟩ := ad
      have hsp := spot_none h00
      simp only at hsp
      subst hsp
      refine ⟨b, o, rfl, fun j u hu => ?_⟩
      rw [List.getElem?_map] at hu
      obtain ⟨z, hz1, rfl⟩ := Option.map_eq_some_iff.1 hu
      have hj : j < len := by
        have := (List.getElem?_eq_some_iff.1 hz1).1
        simp at this
        omega
      rw [List.getElem?_take_of_lt hj] at hz1
      have := hcell j (by omega)
      rw [add_flat] at this
      rw [this]
      have hzd : zs.getD j 0 = z := by simp [hz1]
      rw [hzd]
      have hw := hwz z (List.mem_of_getElem? hz1)
      simp only [Lit.wf, Bool.and_eq_true, decide_eq_true_eq, u8_lo, u8_hi] at hw
      congr 2
      simp
      omega
end

end Go.Proofs.Ytapohcjohndedaa
