/- A variable that is made and stored whole at once. No condition. -/
import Derived.Test.YtcgfnfejacgaeaaDoorMem2
import Derived.Laws.Entries
import Derived.Deep.MidRow
import Derived.Great.BuildSlice
import Derived.Laws.Tables
import Derived.Laws.StructEq
namespace Go.Proofs.YtcgfnfejacgaeaaDoor
open Go.RowKit

/-- A type's zero has so many cells. -/
def ZeroN (P : Program) (t : TypeId) (n : Nat) : Prop := (P.info? t).map (fun i => (i.zero.map (·.cells.size), i.size)) = some (some n, n)
section
variable {P : Program} {w : World} {t : TypeId} {n : Nat}
theorem ZeroN.size (h : ZeroN P t n) : (P.info? t).map (·.size) = some n := by
  unfold ZeroN at h
  cases hq : P.info? t with
  | none => rw [hq] at h; cases h
  | some i => rw [hq] at h; simp at h; simp [h.2]
theorem run_new (h : ZeroN P t n) : ∃ z : Array Value, z.size = n ∧ (Instr.alloc t true (.tuple #[])).run P w = .ok (.pointer (some ⟨w.heap.size, 0, none⟩)) (w.alloc (.cells z t)) := by
  unfold ZeroN at h
  cases hq : P.info? t with
  | none => rw [hq] at h; cases h
  | some i =>
    rw [hq] at h
    simp only [Option.map_some, Option.some.injEq, Prod.mk.injEq] at h
    cases hz : i.zero with
    | none => rw [hz] at h; cases h.1
    | some z =>
      rw [hz] at h
      refine ⟨z.cells, by simpa using h.1, ?_⟩
      simp [Instr.alloc, zeroValue, typeInfo, hq, hz, newVar, newRow]
theorem wpList_new {ops : Array Oper} {rest : List Oper} {op1 op2 : Oper} {a : Act} {Q : Exit → Act → World → Prop} (hg1 : op1.guard = none) (hg2 : op2.guard = none) (t : TypeId) (ho1 : op1.op = .alloc t) (x y : Operand) (ho2 : op2.op = .store t x y)
    (hz : ZeroN P t n) (cs : List Value) (hn : cs.length = n) (hx : ∀ p, (a.put op1.dst p).eval x = p) (hy : ∀ p, (a.put op1.dst p).eval y = .agg cs.toArray) (h1 : ∀ v ∈ cs, v.oneCell' = true)
    (h : ∀ W g, w.heap.size ≤ g → Box W g t cs.toArray → Kp (fun _ => False) w W → wpList P ops Q rest ((a.put op1.dst (.pointer (some ⟨g, 0, none⟩))).put op2.dst undef) W) : wpList P ops Q (op1 :: op2 :: rest) a w := by
  obtain ⟨z, hzn, hrun⟩ := run_new (w := w) hz
  refine wpList_plain hg1 fun K hK => ?_
  unfold Oper.wp execOp
  simp only [ho1, Sem.run_bind, hrun, Result.andThen_ok, Sem.run_pure]
  refine hK _ _ ?_
  have hb := Box.new w t z
  have hb' : Box (w.alloc (.cells z t)) w.heap.size t z.toList.toArray := hb
  refine wpList_store_mid hg2 t x y ho2 w.heap.size 0 cs.toArray (hx _) (hy _) ?_ (by rw [List.size_toArray, hn]; exact hz.size) (all_oneCell_toArray h1) ?_
  · have := hb'.there
    simp only [List.size_toArray, Array.length_toList] at this ⊢
    rw [hn, ← hzn]
    exact this
  · refine h _ _ (Nat.le_refl _) (hb'.write (by simp; omega)) ?_
    exact Kp.setCells cs 0 _ ((Kp.refl (fun _ => False) w).alloc _) (.inl (Nat.le_refl _))
end
/-- Cells written into others, from off on. -/
theorem put_cells (cs : List Value) (off : Nat) : ∀ (k : Nat) (A : Array Value), off + k + cs.length ≤ A.size → (cs.zipIdx k).foldl (fun B x => B.setIfInBounds (off + x.snd) x.fst) A = (A.toList.take (off + k) ++ cs ++ A.toList.drop (off + k + cs.length)).toArray := by
  induction cs with
  | nil => intro k A _; simp
  | cons v r ih =>
    intro k A h
    simp only [List.length_cons] at h
    rw [List.zipIdx_cons, List.foldl_cons, ih (k + 1) _ (by simp; omega)]
    congr 1
    simp only [Array.toList_setIfInBounds, List.length_cons]
    rw [List.drop_set_of_lt (by omega), List.take_set, show off + (k + 1) + r.length = off + k + (r.length + 1) by omega]
    have : (A.toList.take (off + (k + 1))).set (off + k) v = A.toList.take (off + k) ++ [v] := by
      rw [← Nat.add_assoc, List.take_succ_eq_append_getElem (by simp; omega), List.set_append_right _ _ (by simp; omega)]
      simp [Nat.min_eq_left (show off + k ≤ A.size by omega)]
    rw [this]
    simp
theorem fill_one {place : Nat → Option (Nat × Nat)} {Z : List Value} {i off n : Nat} {v : Value} {rest : List (Nat × Value)} (cs : List Value) (hp : place i = some (off, n)) (hv : v.cells = cs.toArray) (hn : cs.length = n) (hle : off + n ≤ Z.length) :
    Instr.fill place Z.toArray ((i, v) :: rest) = Instr.fill place (Z.take off ++ cs ++ Z.drop (off + n)).toArray rest := by
  have h := put_cells cs off 0 Z.toArray (by simp; omega)
  simp only [Nat.add_zero] at h
  rw [Instr.fill, hp]
  simp only [hv, List.size_toArray, hn]
  rw [if_neg (by simp; omega)]
  have e : cs.toArray.zipIdx.foldl (fun B x => B.setIfInBounds (off + x.2) x.1) Z.toArray = (cs.zipIdx 0).foldl (fun B x => B.setIfInBounds (off + x.snd) x.fst) Z.toArray := by
    rw [← Array.foldl_toList]
    simp
  rw [show (cs.toArray.zipIdx.foldl (fun cs x => cs.setIfInBounds (off + x.2) x.1) Z.toArray) = _ from e.trans h, hn]
section
variable {P : Program} {w : World} {n : Nat}
/-- A slice of one struct. -/
theorem wp_slice1 {o : Oper} {a : Act} {K : Act → World → Prop} {Q : Exit → Act → World → Prop} (t e : TypeId) (x : Operand) (ho : o.op = .buildSlice t 1 #[(0, x)])
    (hu : P.underlying t = some (.slice e)) (hz : ZeroN P e n) (h0 : 0 < n) (h24 : n ≤ 2 ^ 24) (cs : List Value) (hx : a.eval x = .agg cs.toArray) (hn : cs.length = n)
    (h : ∀ W g, w.heap.size ≤ g → Box W g e cs.toArray → Kp (fun _ => False) w W → W.heap.size = g + 1 → K (a.put o.dst (.slice (some ⟨g, 0, none⟩) 1 1)) W) : o.wp P a w K Q := by
  unfold ZeroN at hz
  cases hq : P.info? e with
  | none => rw [hq] at hz; cases hz
  | some i =>
    rw [hq] at hz
    simp only [Option.map_some, Option.some.injEq, Prod.mk.injEq] at hz
    cases hzz : i.zero with
    | none => rw [hzz] at hz; cases hz.1
    | some z =>
      have hs := hz.2
      refine wp_buildSlice (cells := cs.toArray) (ie := i) (z := z) t e 1 _ ho hu hq hzz (by rw [hs]; omega) (by rw [hs]; omega) ?_ (h _ _ (Nat.le_refl _) (Box.new w e _) ((Kp.refl _ w).alloc _) (by simp))
      generalize hZ : (Array.range (1 * i.size)).map (z.cells[· % z.cells.size]!) = Z
      have hZn : Z.size = n := by rw [← hZ]; simp [hs]
      have := fill_one (place := fun j => some (j * i.size, i.size)) (Z := Z.toList) (i := 0) (v := .agg cs.toArray) (rest := []) (n := n) (off := 0) cs (by simp [hs]) rfl hn (by simp; omega)
      have hl : (#[(0, x)].map fun (i, x) => (i, a.eval x)).toList = [(0, Value.agg cs.toArray)] := by simp [hx]
      rw [hl]
      rw [Array.toArray_toList] at this
      rw [this, Instr.fill]
      simp
      omega
theorem wpList_slice1 {ops : Array Oper} {rest : List Oper} {o : Oper} {a : Act} {Q : Exit → Act → World → Prop} (hg : o.guard = none) (t e : TypeId) (x : Operand) (ho : o.op = .buildSlice t 1 #[(0, x)])
    (hu : P.underlying t = some (.slice e)) (hz : ZeroN P e n) (h0 : 0 < n) (h24 : n ≤ 2 ^ 24) (cs : List Value) (hx : a.eval x = .agg cs.toArray) (hn : cs.length = n)
    (h : ∀ W g, w.heap.size ≤ g → Box W g e cs.toArray → Kp (fun _ => False) w W → W.heap.size = g + 1 → wpList P ops Q rest (a.put o.dst (.slice (some ⟨g, 0, none⟩) 1 1)) W) : wpList P ops Q (o :: rest) a w :=
  wpList_plain hg fun _ hK => wp_slice1 t e x ho hu hz h0 h24 cs hx hn fun W g h1 h2 h3 h4 => hK _ _ (h W g h1 h2 h3 h4)
theorem wpList_build {ops : Array Oper} {rest : List Oper} {o : Oper} {a : Act} {Q : Exit → Act → World → Prop} (hg : o.guard = none) (t : TypeId) (ps : List (Nat × Operand)) (ho : o.op = .build t ps.toArray)
    (cells : Array Value) (hb : P.built t (ps.map fun x => (x.1, a.eval x.2)) = some cells)
    (h : wpList P ops Q rest (a.put o.dst (.agg cells)) w) : wpList P ops Q (o :: rest) a w := by
  have e : (ps.toArray.map fun (i, x) => (i, a.eval x)).toList = ps.map fun x => (x.1, a.eval x.2) := by simp
  exact wpList_plain hg fun _ hK => wp_build t ps.toArray ho (by rw [e, hb]; rfl) (by rw [e, hb]; exact hK _ _ h)
end
/-- Two structs compared: what is answered is known. -/
theorem wp_cmp {P : Program} {op : Oper} {a : Act} {w : World} {K : Act → World → Prop} {Q : Exit → Act → World → Prop} (bo : BinOp) (t t2 : TypeId) (x y : Operand) (ho : op.op = .binOp bo t x y t2)
    (us vs : Array Value) (r : Value) (hx : a.eval x = .agg us) (hy : a.eval y = .agg vs) (hm : P.eqGuardType P.depth t = false) (hrun : ∀ w, (binOp bo t (.agg us) (.agg vs)).run P w = .ok r w) (h : K (a.put op.dst r) w) : op.wp P a w K Q := by
  unfold Oper.wp execOp
  simp only [ho, hx, hy, Sem.run_bind, Sem.run_pure, Result.andThen_ok, run_eqGuard_agg w bo t x y us vs hm, hrun]
  exact h
theorem wpList_cmp {P : Program} {ops : Array Oper} {rest : List Oper} {op : Oper} {a : Act} {w : World} {Q : Exit → Act → World → Prop} (hg : op.guard = none) (bo : BinOp) (t t2 : TypeId) (x y : Operand) (ho : op.op = .binOp bo t x y t2)
    (us vs : Array Value) (r : Value) (hx : a.eval x = .agg us) (hy : a.eval y = .agg vs) (hm : P.eqGuardType P.depth t = false) (hrun : ∀ w, (binOp bo t (.agg us) (.agg vs)).run P w = .ok r w) (h : wpList P ops Q rest (a.put op.dst r) w) : wpList P ops Q (op :: rest) a w :=
  wpList_plain hg fun _ hK => wp_cmp bo t t2 x y ho us vs r hx hy hm hrun (hK _ _ h)
theorem exec_cmp {P : Program} {op : Oper} {a : Act} {w : World} (bo : BinOp) (t t2 : TypeId) (x y : Operand) (ho : op.op = .binOp bo t x y t2)
    (us vs : Array Value) (r : Value) (hx : a.eval x = .agg us) (hy : a.eval y = .agg vs) (hm : P.eqGuardType P.depth t = false) (hrun : ∀ w, (binOp bo t (.agg us) (.agg vs)).run P w = .ok r w) : (execOp a.eval op).run P w = .ok (.value r) w := by
  unfold execOp
  simp only [ho, hx, hy, Sem.run_bind, Sem.run_pure, Result.andThen_ok, run_eqGuard_agg w bo t x y us vs hm, hrun]
end Go.Proofs.YtcgfnfejacgaeaaDoor
