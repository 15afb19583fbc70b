/- Sectors and writes as cells in their blocks. No condition. -/
import Derived.Test.YtfcljcikajaedaaDoorMg14
namespace Go.Proofs.YtfcljcikajaedaaDoor
open Go.RowKit Go.Maps

theorem zero_row (t : TypeId) (n : Nat) (h : (match Tryd.prog.info? t with | some i => (match i.zero with | some (.agg cs) => cs.size == n && i.size == n && cs.all (·.oneCell') | _ => false) | none => false) = true) :
    ∃ zc : Array Value, (∀ w, (zeroValue t).run Tryd.prog w = .ok (.agg zc) w) ∧ zc.size = n ∧ (Tryd.prog.info? t).map (·.size) = some n ∧ zc.all (·.oneCell') = true := by
  cases hi : Tryd.prog.info? t with
  | none => rw [hi] at h; cases h
  | some i =>
    rw [hi] at h
    dsimp only at h
    split at h
    · next cs hz =>
      simp only [Bool.and_eq_true, beq_iff_eq] at h
      exact ⟨cs, fun w => by simp [zeroValue, typeInfo, hi, hz], h.1.1, by simp [h.1.2], h.2⟩
    · cases h
theorem zeroWr : ∃ zc : Array Value, (∀ w, (zeroValue 94).run Tryd.prog w = .ok (.agg zc) w) ∧ zc.size = 513 ∧ (Tryd.prog.info? 94).map (·.size) = some 513 ∧ zc.all (·.oneCell') = true := zero_row _ _ (by kernel_rfl)
theorem zeroSec : ∃ zc : Array Value, (∀ w, (zeroValue 91).run Tryd.prog w = .ok (.agg zc) w) ∧ zc.size = 512 ∧ (Tryd.prog.info? 91).map (·.size) = some 512 ∧ zc.all (·.oneCell') = true := zero_row _ _ (by kernel_rfl)

/-- The cells of the k-th write, among the cells of all. -/
theorem waitCells_length (l : List (Nat × List UInt8)) (h : ∀ x ∈ l, x.2.length = 512) : (waitCells l).length = l.length * 513 := by
  induction l with
  | nil => rfl
  | cons x r ih =>
    have h1 := h x (by simp)
    have h2 := ih fun y hy => h y (by simp [hy])
    simp only [waitCells, List.flatMap_cons, List.length_append, bcs_length, List.length_cons, List.length_nil] at h2 ⊢
    omega
theorem onCells_length (l : List (List UInt8)) (h : ∀ x ∈ l, x.length = 512) : (onCells l).length = l.length * 512 := by
  induction l with
  | nil => rfl
  | cons x r ih =>
    have h1 := h x (by simp)
    have h2 := ih fun y hy => h y (by simp [hy])
    simp only [onCells, List.flatMap_cons, List.length_append, bcs_length, List.length_cons] at h2 ⊢
    omega
def wrCells (x : Nat × List UInt8) : List Value := bcs x.2 ++ [.int .i64 x.1]
theorem wrCells_length (x : Nat × List UInt8) (h : x.2.length = 512) : (wrCells x).length = 513 := by simp [wrCells, bcs_length, h]
theorem wrCells_one (x : Nat × List UInt8) : ∀ v ∈ wrCells x, v.oneCell' = true := fun v hv => by
  rcases List.mem_append.1 hv with hv | hv
  · exact bcs_one _ v hv
  · obtain rfl : v = .int .i64 x.1 := by simpa using hv
    rfl
/-- A whole variable is stored into a block that is known whole. -/
theorem dwpList_store_box {P : Program} {ops : Array Oper} {rest : List Oper} {op : Oper} {a : Act} {w : World} {Q : Exit → Act → World → Prop} (hgd : op.guard = none) (ty : TypeId) (x y : Operand) (ho : op.op = .store ty x y)
    (g : Nat) (cs : List Value) (hx : a.eval x = .pointer (some ⟨g, 0, none⟩)) (hy : a.eval y = .agg cs.toArray) {t : TypeId} {old : Array Value} (hb : Box w g t old) (hs : old.size = cs.length)
    (hi : (P.info? ty).map (·.size) = some cs.length) (h1 : ∀ v ∈ cs, v.oneCell' = true)
    (h : ∀ W, Box W g t cs.toArray → Kp (fun k => k = g) w W → wpList P ops Q rest (a.put op.dst undef) W) : wpList P ops Q (op :: rest) a w := by
  have hb' : Box w g t old.toList.toArray := hb
  refine wpList_store_mid hgd ty x y ho g 0 cs.toArray hx hy ?_ (by simpa using hi) (all_oneCell_toArray h1) ?_
  · have := hb'.there
    simp only [List.size_toArray, Array.length_toList] at this ⊢
    rw [← hs]
    exact this
  · refine h _ ?_ (Kp.setCells _ 0 w (Kp.refl _ w) (.inr rfl))
    exact hb'.write (by simpa using hs.symm)
theorem waitCells_get (l : List (Nat × List UInt8)) (h : ∀ x ∈ l, x.2.length = 512) (k : Nat) (x : Nat × List UInt8) (hk : l[k]? = some x) (j : Nat) (v : Value) (hj : (wrCells x)[j]? = some v) : (waitCells l)[k * 513 + j]? = some v := by
  induction l generalizing k with
  | nil => simp at hk
  | cons y r ih =>
    have hy := h y (by simp)
    have e : waitCells (y :: r) = wrCells y ++ waitCells r := rfl
    have hlen : (wrCells y).length = 513 := by simp [wrCells, bcs_length, hy]
    rw [e]
    cases k with
    | zero =>
      cases hk
      rw [Nat.zero_mul, Nat.zero_add, List.getElem?_append_left (List.getElem?_eq_some_iff.1 hj).1]
      exact hj
    | succ k =>
      rw [List.getElem?_append_right (by omega), show (k + 1) * 513 + j - (wrCells y).length = k * 513 + j by omega]
      exact ih (fun z hz => h z (by simp [hz])) k (by simpa using hk)
theorem onCells_get (l : List (List UInt8)) (h : ∀ x ∈ l, x.length = 512) (k : Nat) (x : List UInt8) (hk : l[k]? = some x) (j : Nat) (v : Value) (hj : (bcs x)[j]? = some v) : (onCells l)[k * 512 + j]? = some v := by
  induction l generalizing k with
  | nil => simp at hk
  | cons y r ih =>
    have hy := h y (by simp)
    have e : onCells (y :: r) = bcs y ++ onCells r := rfl
    have hlen : (bcs y).length = 512 := by simp [bcs_length, hy]
    rw [e]
    cases k with
    | zero =>
      cases hk
      rw [Nat.zero_mul, Nat.zero_add, List.getElem?_append_left (List.getElem?_eq_some_iff.1 hj).1]
      exact hj
    | succ k =>
      rw [List.getElem?_append_right (by omega), show (k + 1) * 512 + j - (bcs y).length = k * 512 + j by omega]
      exact ih (fun z hz => h z (by simp [hz])) k (by simpa using hk)
/-- A sector is another one. -/
theorem onCells_set (l : List (List UInt8)) (h : ∀ x ∈ l, x.length = 512) (k : Nat) (hk : k < l.length) (s : List UInt8) (_hs : s.length = 512) : onCells (l.set k s) = (onCells l).take (k * 512) ++ bcs s ++ (onCells l).drop (k * 512 + 512) := by
  induction l generalizing k with
  | nil => simp at hk
  | cons y r ih =>
    have hy := h y (by simp)
    have hlen : (bcs y).length = 512 := by simp [bcs_length, hy]
    have e : onCells (y :: r) = bcs y ++ onCells r := rfl
    cases k with
    | zero =>
      rw [e]
      show bcs s ++ onCells r = _
      rw [Nat.zero_mul, List.take_zero, List.nil_append, List.drop_append, List.drop_eq_nil_of_le (by omega), show 0 + 512 - (bcs y).length = 0 by omega, List.drop_zero, List.nil_append]
    | succ k =>
      rw [e]
      show bcs y ++ onCells (r.set k s) = _
      rw [ih (fun z hz => h z (by simp [hz])) k (by simpa using hk), List.take_append, List.take_of_length_le (show (bcs y).length ≤ (k + 1) * 512 by omega), List.drop_append, List.drop_eq_nil_of_le (show (bcs y).length ≤ (k + 1) * 512 + 512 by omega), show (k + 1) * 512 - (bcs y).length = k * 512 by omega, show (k + 1) * 512 + 512 - (bcs y).length = k * 512 + 512 by omega]
      simp [List.append_assoc]
theorem own_range {w : World} {base : Nat} {e : TypeId} {size n : Nat} {g cap : Nat} {xs cs : List Value} (h : w.ownsRow base e size (.slice (some ⟨g, 0, none⟩) n cap) n xs) (o : Nat) (hc : ∀ j v, cs[j]? = some v → xs[o + j]? = some v) : w.rangeAt g o cs := fun j v hj => by
  have := h.cells (g := g) rfl (o + j) v (hc j v hj)
  rwa [Addr.add_mid, Nat.zero_add] at this
theorem own_there {w : World} {base : Nat} {e : TypeId} {size n : Nat} {g cap : Nat} {xs : List Value} (h : w.ownsRow base e size (.slice (some ⟨g, 0, none⟩) n cap) n xs) (o m : Nat) (hm : o + m ≤ n * size) : w.there g o m := fun j hj => by
  rcases h.2 with ⟨h0, _⟩ | ⟨g', cap', cur, hv, _, hg, hnc, _, hsz, ht⟩
  · cases h0
  · injection hv with h1 h2 h3
    injection h1 with h1
    injection h1 with h1
    subst h1; subst h3
    have hb : Box w g e cur := hg
    rw [hb.cell, hb.free]
    have := Nat.mul_le_mul_right size hnc
    exact ⟨by simp; omega, rfl⟩
theorem take_mid {α : Type} (L vs : List α) (o N : Nat) (h : o + vs.length ≤ N) (hN : N ≤ L.length) : (L.take o ++ vs ++ L.drop (o + vs.length)).take N = (L.take N).take o ++ vs ++ (L.take N).drop (o + vs.length) := by
  have hl : (L.take o ++ vs).length = o + vs.length := by simp; omega
  rw [List.take_append, List.take_of_length_le (show (L.take o ++ vs).length ≤ N by omega), hl, List.drop_take, List.take_take, Nat.min_eq_left (show o ≤ N by omega)]
theorem own_set {w : World} {base : Nat} {e : TypeId} {size n : Nat} {g cap : Nat} {xs : List Value} (h : w.ownsRow base e size (.slice (some ⟨g, 0, none⟩) n cap) n xs) (o : Nat) (vs : List Value) (hm : o + vs.length ≤ n * size) :
    (w.setCells g o vs).ownsRow base e size (.slice (some ⟨g, 0, none⟩) n cap) n (xs.take o ++ vs ++ xs.drop (o + vs.length)) := by
  have hx := h.1
  refine ⟨by simp; omega, .inr ?_⟩
  rcases h.2 with ⟨h0, _⟩ | ⟨g', cap', cur, hv, hb, hg, hnc, hc, hsz, ht⟩
  · cases h0
  · injection hv with h1 h2 h3
    injection h1 with h1
    injection h1 with h1
    subst h1; subst h3
    have hbox : Box w g e cur.toList.toArray := hg
    have := Nat.mul_le_mul_right size hnc
    have hw := Box.writes vs o w cur.toList hbox (by simp; omega)
    refine ⟨g, cap, _, rfl, hb, hw, hnc, hc, by simp; omega, ?_⟩
    rw [← ht]
    exact take_mid cur.toList vs o (n * size) hm (by simp; omega)

end Go.Proofs.YtfcljcikajaedaaDoor
