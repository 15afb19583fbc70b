/- What came in, read: a slice of things, a slice of bytes. No condition. -/
import Derived.Test.YtfcljcikajaedaaGreatDoorMg12
import Derived.ProofKit
import Derived.Deep.Slices
import Derived.Deep.Fields
import Derived.ChangeSame
import Derived.ChangeOld
import Derived.Test.YtfcljcikajaedaaGreatDoorMg11
namespace Go.Proofs.YtfcljcikajaedaaGreatDoor
open Go.ChangeShapes Go.WideShapes Go.ChangeAt Go.RowKit
open Go.Deep (open_slice choose_lt)

theorem cells_u8 : Tryz.prog.cellsOf 5 = 1 := by kernel_rfl
theorem cells_int : Tryz.prog.cellsOf 3 = 1 := by kernel_rfl
theorem dcells_bool : Tryz.prog.cellsOf 4 = 1 := by kernel_rfl
theorem dcells_str : Tryz.prog.cellsOf 9 = 1 := by kernel_rfl

theorem u8_lo : IntKind.u8.min = 0 := by decide
theorem u8_hi : IntKind.u8.max = 255 := by decide
theorem i64_lo : IntKind.i64.min = -9223372036854775808 := by decide
theorem i64_hi : IntKind.i64.max = 9223372036854775807 := by decide

theorem spot_none {w : World} {a : Addr} {v : Value} (h : w.cell? a = some v) : a.spot = none := by
  unfold World.cell? at h
  split at h
  · split at h
    · cases h
    · next hs => simpa using hs
  · cases h
theorem add_zero' (a : Addr) : a.add 0 = a := by unfold Addr.add; simp
theorem add_flat (b o n : Nat) : (⟨b, o, none⟩ : Addr).add n = ⟨b, o + n, none⟩ := by unfold Addr.add; split <;> simp_all

section
variable {H : Type} {enc : TypeId × Value → H} {W : World}

instance : Inhabited Ac := ⟨⟨0, 0, [], 0, false⟩⟩
end

end Go.Proofs.YtfcljcikajaedaaGreatDoor

/- What came in, read: a slice of acts of the law on logs. No condition. -/
namespace Go.Proofs.YtfcljcikajaedaaGreatDoor
open Go.ChangeShapes Go.WideShapes Go.ChangeAt Go.RowKit
open Go.Deep (open_slice choose_lt)

theorem wcells_item : Tryz.prog.cellsOf 30 = 4 := by kernel_rfl
section
variable {H : Type} {enc : TypeId × Value → H} {W : World}

instance : Inhabited Aw := ⟨⟨0, 0, 0, []⟩⟩
set_option maxRecDepth 100000 in
theorem wopen_item {fuel : Nat} {cs : List Value} {x : DataW H × List MemPlace} (h : DataW.trod enc Tryz.prog W 0 (fun _ => true) true fuel 30 cs = some x) :
    ∃ y : Aw, y.Ok ∧ cs = y.cells.toList := by
  obtain ⟨ys, n, _, _, hl, hlen, hf⟩ := DataW.trod_struct Tryz.underlying30 h
  rw [wcells_item] at hl
  match cs, hl with
  | [v0, v1, v2, v3], _ =>
    match ys, hlen with
    | [y0, y1, y2, y3], _ =>
      have f0 := hf 0 _ rfl
      have f1 := hf 1 _ rfl
      have f2 := hf 2 _ rfl
      have f3 := hf 3 _ rfl
      simp [cells_u8] at f0
      simp [cells_int] at f1
      simp [cells_u8] at f2
      simp [dcells_str] at f3
      obtain ⟨d, e0, _, w0⟩ := DataW.trod_int Tryz.underlying5 f0
      obtain ⟨n, e1, _, w1⟩ := DataW.trod_int Tryz.underlying3 f1
      obtain ⟨c, e2, _, w2⟩ := DataW.trod_int Tryz.underlying5 f2
      obtain ⟨s, e3, _, w3⟩ := DataW.trod_string Tryz.underlying9 f3
      cases e0; cases e1; cases e2; cases e3
      simp only [Lit.wf, Bool.and_eq_true, decide_eq_true_eq, u8_lo, u8_hi, i64_lo, i64_hi] at w0 w1 w2
      have hs : (⟨s.data.toList.toArray⟩ : ByteArray) = s := by cases s; simp
      have hc : ((UInt8.ofNat c.toNat).toNat : Int) = c := by simp; omega
      refine ⟨⟨d, n, UInt8.ofNat c.toNat, s.data.toList⟩, ⟨by simp only; omega, by simp only; omega, by simp only; omega, by simp only; omega, by simpa using w3⟩, ?_⟩
      simp only [Aw.cells, hs, hc]

/-- A slice of things that came in. -/
theorem wopen_items {a : Option Addr} {len cap : Nat} {d : DataW H} {p : List MemPlace} (h : DataW.Trod enc Tryz.prog W 0 (fun _ => true) true 22 (.slice a len cap) d p) :
    ∃ l : List Aw, l.length = len ∧ len ≤ cap ∧ cap ≤ maxLen ∧ Aws W W.heap.size a l := by
  obtain ⟨fuel, hf⟩ := h
  rcases open_slice Tryz.underlying22 hf with ⟨hcs, _⟩ | ⟨ad, l, c, m, n, D, Pl, hcs, _, hl, hm, hmm, _, hi⟩
  · simp [Value.cells] at hcs
    obtain ⟨rfl, rfl, rfl⟩ := hcs
    exact ⟨[], rfl, Nat.le_refl _, by simp [maxLen], by simp, .inl rfl⟩
  · simp [Value.cells] at hcs
    obtain ⟨rfl, rfl, rfl⟩ := hcs
    have hlm : len ≤ m := by rw [hmm]; simp; omega
    rw [wcells_item] at hi
    obtain ⟨V, hV⟩ := choose_lt (α := Aw) (n := len) (p := fun i y => y.Ok ∧ ∀ j v, y.cells[j]? = some v → W.cell? ((ad.add (i * 4)).add j) = some v) (fun i hlt => by
      obtain ⟨cs, hc, ht⟩ := hi i (by omega)
      obtain ⟨_, hcl, hat⟩ := World.cells?_some hc
      obtain ⟨y, hy, hyc⟩ := wopen_item ht
      refine ⟨y, hy, fun j v hv => ?_⟩
      have hj : j < 4 := (Array.getElem?_eq_some_iff.1 hv).1
      rw [hat j hj, hyc]
      simpa using hv)
    refine ⟨(List.range len).map V, by simp, hl, hm, fun x hx => ?_, ?_⟩
    · obtain ⟨i, hir, rfl⟩ := List.mem_map.1 hx
      exact (hV i (List.mem_range.1 hir)).1
    · rcases Nat.eq_zero_or_pos len with h0 | h0
      · left; subst h0; rfl
      · right
        have h00 := (hV 0 h0).2 0 _ rfl
        rw [Nat.zero_mul, add_zero', add_zero'] at h00
        obtain ⟨b, o, sp⟩ := ad
        have hsp := spot_none h00
        simp only at hsp
        subst hsp
        refine ⟨b, o, rfl, World.block_lt_of_cell? _ _ h00, fun i x hx j v hv => ?_⟩
        have hil : i < len := by
          have := (List.getElem?_eq_some_iff.1 hx).1
          simpa using this
        simp [hil] at hx
        subst hx
        have := (hV i hil).2 j v hv
        rwa [add_flat, add_flat] at this

end

end Go.Proofs.YtfcljcikajaedaaGreatDoor
