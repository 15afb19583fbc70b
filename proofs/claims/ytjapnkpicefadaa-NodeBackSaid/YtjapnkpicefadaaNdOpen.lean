/- What came in, read: a shape, a node, bytes. No condition. -/
import Derived.Test.YtjapnkpicefadaaNdMem
import Derived.ProofKit
import Derived.Deep.Slices
import Derived.Deep.Strs
import Derived.Deep.Fields
import Derived.ChangeSame
import Derived.ChangeOld
import Derived.ChangeMaps5
namespace Go.Proofs.Ytjapnkpicefadaa
open Go.ChangeShapes Go.WideShapes Go.ChangeAt Go.RowKit
open Go.Deep (open_slice open_slice1 open_strs choose_lt)

theorem ncells_shape : Try.prog.cellsOf 30 = 2 := by kernel_rfl
theorem ncells_rshape : Try.prog.cellsOf 23 = 2 := by kernel_rfl
theorem ncells_node : Try.prog.cellsOf 27 = 4 := by kernel_rfl
theorem ncells_u8 : Try.prog.cellsOf 5 = 1 := by kernel_rfl
theorem ncells_int : Try.prog.cellsOf 3 = 1 := by kernel_rfl
theorem ncells_bool : Try.prog.cellsOf 4 = 1 := by kernel_rfl
theorem ncells_str : Try.prog.cellsOf 9 = 1 := by kernel_rfl
theorem ncells_strs : Try.prog.cellsOf 24 = 1 := by kernel_rfl
theorem ncells_ints : Try.prog.cellsOf 25 = 1 := by kernel_rfl
theorem nu8_lo : IntKind.u8.min = 0 := by decide
theorem nu8_hi : IntKind.u8.max = 255 := by decide
theorem nadd_zero (a : Addr) : a.add 0 = a := by unfold Addr.add; simp
theorem nadd_flat (b o n : Nat) : (⟨b, o, none⟩ : Addr).add n = ⟨b, o + n, none⟩ := by unfold Addr.add; split <;> simp_all
theorem nspot {w : World} {a : Addr} {v : Value} (h : w.cell? a = some v) : a.spot = none := by
  unfold World.cell? at h
  split at h
  · split at h
    · cases h
    · next hs => simpa using hs
  · cases h
section
variable {H : Type} {enc : TypeId × Value → H} {W : World}
theorem rdv_mk {a : Addr} {n : Nat} {V : Nat → Value} (h : ∀ i, i < n → W.cell? (a.add i) = some (V i)) : RdV W (some a) ((List.range n).map V) := by
  rcases Nat.eq_zero_or_pos n with h0 | h0
  · left; subst h0; rfl
  · right
    have h00 := h 0 h0
    rw [nadd_zero] at h00
    obtain ⟨b, o, sp⟩ := a
    have hsp := nspot h00
    simp only at hsp
    subst hsp
    refine ⟨b, o, rfl, fun j u hu => ?_⟩
    have hj : j < n := by have := (List.getElem?_eq_some_iff.1 hu).1; simpa using this
    have := h j hj
    rw [nadd_flat] at this
    rw [this]
    simpa [hj] using hu
theorem open_strsV {fuel : Nat} {v : Value} {x : DataW H × List MemPlace} (h : DataW.trod enc Try.prog W 0 (fun _ => true) true fuel 24 [v] = some x) :
    ∃ A l c, v = .slice A (List.length (α := ByteArray) l) c ∧ RdV W A (sts l) ∧ l.length ≤ c ∧ c ≤ maxLen := by
  rcases open_strs Try.underlying24 Try.underlying9 ncells_str h with ⟨hcs, _⟩ | ⟨a, len, cap, m, Sx, hcs, _, hl, hm, hmm, _, hx⟩
  · cases hcs
    exact ⟨none, [], 0, rfl, .nil _ _, Nat.le_refl _, by simp [maxLen]⟩
  · cases hcs
    have hlm : len ≤ m := by rw [hmm]; simp; omega
    refine ⟨some a, (List.range len).map Sx, cap, by simp, ?_, by simpa using hl, hm⟩
    have := rdv_mk (W := W) (a := a) (n := len) (V := fun i => .string (Sx i)) fun i hi => (hx i (by omega)).1
    rw [sts, List.map_map]
    exact this
theorem open_intsV {fuel : Nat} {v : Value} {x : DataW H × List MemPlace} (h : DataW.trod enc Try.prog W 0 (fun _ => true) true fuel 25 [v] = some x) :
    ∃ A l c, v = .slice A (List.length (α := Int) l) c ∧ RdV W A (its l) ∧ l.length ≤ c ∧ c ≤ maxLen := by
  rcases open_slice1 Try.underlying25 ncells_int h with ⟨hcs, _⟩ | ⟨a, len, cap, m, n, V, D, Pl, hcs, _, hl, hm, hmm, _, hx⟩
  · cases hcs
    exact ⟨none, [], 0, rfl, .nil _ _, Nat.le_refl _, by simp [maxLen]⟩
  · cases hcs
    have hlm : len ≤ m := by rw [hmm]; simp; omega
    obtain ⟨Z, hZ⟩ := choose_lt (α := Int) (n := len) (p := fun i z => V i = .int .i64 z) (fun i hi => by
      obtain ⟨z, e, _, _⟩ := DataW.trod_int Try.underlying3 (hx i (by omega)).2
      exact ⟨z, by simpa using e⟩)
    refine ⟨some a, (List.range len).map Z, cap, by simp, ?_, by simpa using hl, hm⟩
    have := rdv_mk (W := W) (a := a) (n := len) (V := fun i => .int .i64 (Z i)) fun i hi => by rw [← hZ i hi]; exact (hx i (by omega)).1
    rw [its, List.map_map]
    exact this
theorem open_shape {cs : Array Value} {d : DataW H} {p : List MemPlace} (h : DataW.Trod enc Try.prog W 0 (fun _ => true) true 30 (.agg cs) d p) :
    ∃ kw vw, cs = #[.int .i64 kw, .int .i64 vw] := by
  obtain ⟨fuel, hf⟩ := h
  obtain ⟨ys, n, _, _, hl, hlen, hf⟩ := DataW.trod_struct Try.underlying30 hf
  rw [ncells_shape] at hl
  obtain ⟨l, rfl⟩ : ∃ l : List Value, cs = l.toArray := ⟨cs.toList, by simp⟩
  simp only [Value.cells, List.toList_toArray] at hl hf
  match l, hl with
  | [v0, v1], _ =>
    match ys, hlen with
    | [y0, y1], _ =>
      have f0 := hf 0 _ rfl
      have f1 := hf 1 _ rfl
      simp [ncells_int] at f0 f1
      obtain ⟨a, e0, _, _⟩ := DataW.trod_int Try.underlying3 f0
      obtain ⟨b, e1, _, _⟩ := DataW.trod_int Try.underlying3 f1
      cases e0; cases e1
      exact ⟨a, b, rfl⟩
theorem open_rshape {cs : Array Value} {d : DataW H} {p : List MemPlace} (h : DataW.Trod enc Try.prog W 0 (fun _ => true) true 23 (.agg cs) d p) :
    ∃ kw vw, cs = #[.int .i64 kw, .int .i64 vw] := by
  obtain ⟨fuel, hf⟩ := h
  obtain ⟨ys, n, _, _, hl, hlen, hf⟩ := DataW.trod_struct Try.underlying23 hf
  rw [ncells_rshape] at hl
  obtain ⟨l, rfl⟩ : ∃ l : List Value, cs = l.toArray := ⟨cs.toList, by simp⟩
  simp only [Value.cells, List.toList_toArray] at hl hf
  match l, hl with
  | [v0, v1], _ =>
    match ys, hlen with
    | [y0, y1], _ =>
      have f0 := hf 0 _ rfl
      have f1 := hf 1 _ rfl
      simp [ncells_int] at f0 f1
      obtain ⟨a, e0, _, _⟩ := DataW.trod_int Try.underlying3 f0
      obtain ⟨b, e1, _, _⟩ := DataW.trod_int Try.underlying3 f1
      cases e0; cases e1
      exact ⟨a, b, rfl⟩
set_option maxRecDepth 100000 in
theorem open_node {cs : Array Value} {d : DataW H} {p : List MemPlace} (h : DataW.Trod enc Try.prog W 0 (fun _ => true) true 27 (.agg cs) d p) :
    ∃ n q, cs = ncs n q ∧ NdR W n q := by
  obtain ⟨fuel, hf⟩ := h
  obtain ⟨ys, n, _, _, hl, hlen, hf⟩ := DataW.trod_struct Try.underlying27 hf
  rw [ncells_node] at hl
  obtain ⟨l, rfl⟩ : ∃ l : List Value, cs = l.toArray := ⟨cs.toList, by simp⟩
  simp only [Value.cells, List.toList_toArray] at hl hf
  match l, hl with
  | [v0, v1, v2, v3], _ =>
    match ys, hlen with
    | [y0, y1, y2, y3], _ =>
      have f0 := hf 0 _ rfl
      have f1 := hf 1 _ rfl
      have f2 := hf 2 _ rfl
      have f3 := hf 3 _ rfl
      simp [ncells_bool] at f0
      simp [ncells_strs] at f1
      simp [ncells_strs] at f2
      simp [ncells_ints] at f3
      obtain ⟨z, e0, _⟩ := DataW.trod_bool Try.underlying4 f0
      obtain ⟨A1, l1, c1, rfl, r1, h1, m1⟩ := open_strsV f1
      obtain ⟨A2, l2, c2, rfl, r2, h2, m2⟩ := open_strsV f2
      obtain ⟨A3, l3, c3, rfl, r3, h3, m3⟩ := open_intsV f3
      cases e0
      exact ⟨⟨z, l1, l2, l3⟩, ⟨A1, A2, A3, c1, c2, c3⟩, rfl, ⟨r1, r2, r3, ⟨h1, m1⟩, ⟨h2, m2⟩, ⟨h3, m3⟩⟩⟩
/-- A slice of bytes that came in. -/
theorem nopen_bytes {a : Option Addr} {len cap : Nat} {d : DataW H} {p : List MemPlace} (h : DataW.Trod enc Try.prog W 0 (fun _ => true) true 32 (.slice a len cap) d p) :
    ∃ l : List UInt8, l.length = len ∧ len ≤ cap ∧ cap ≤ maxLen ∧ Rd W a l := by
  obtain ⟨fuel, hf⟩ := h
  rcases open_ints Try.underlying32 Try.underlying5 (by kernel_rfl) hf with ⟨hcs, _⟩ | ⟨ad, l, c, zs, hcs, _, hl, hm, hz, _, hcell, hwz⟩
  · simp [Value.cells] at hcs
    obtain ⟨rfl, rfl, rfl⟩ := hcs
    exact ⟨[], rfl, Nat.le_refl _, by simp [maxLen], .inl rfl⟩
  · simp [Value.cells] at hcs
    obtain ⟨rfl, rfl, rfl⟩ := hcs
    simp at hz
    refine ⟨(zs.take len).map fun z => UInt8.ofNat z.toNat, by simp; omega, hl, hm, ?_⟩
    rcases Nat.eq_zero_or_pos len with h0 | h0
    · left; subst h0; rfl
    · right
      have h00 := hcell 0 (by omega)
      rw [nadd_zero] at h00
      obtain ⟨b, o, sp⟩ := ad
      have hsp := nspot h00
      simp only at hsp
      subst hsp
      refine ⟨b, o, rfl, fun j u hu => ?_⟩
      rw [List.getElem?_map] at hu
      obtain ⟨z, hz1, rfl⟩ := Option.map_eq_some_iff.1 hu
      have hj : j < len := by
        have := (List.getElem?_eq_some_iff.1 hz1).1
        simp at this
        omega
      rw [List.getElem?_take_of_lt hj] at hz1
      have := hcell j (by omega)
      rw [nadd_flat] at this
      rw [this]
      have hzd : zs.getD j 0 = z := by simp [hz1]
      rw [hzd]
      have hw := hwz z (List.mem_of_getElem? hz1)
      simp only [Lit.wf, Bool.and_eq_true, decide_eq_true_eq, nu8_lo, nu8_hi] at hw
      congr 2
      simp
      omega
end
end Go.Proofs.Ytjapnkpicefadaa
