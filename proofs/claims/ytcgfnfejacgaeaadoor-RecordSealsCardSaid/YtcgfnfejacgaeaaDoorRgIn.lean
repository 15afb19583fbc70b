/- Operations within a round of a range over a function: loads and stores of whole structs, a slice of one struct, a variable made and stored. No condition. -/
import Derived.OwnWalkIn
import Derived.Test.YtcgfnfejacgaeaaDoorGen
namespace Go.Proofs.YtcgfnfejacgaeaaDoor
open Go.RowKit

section
variable {F : Fence} {n : Nat} {P : Program} {ops : Array Oper} {rest : List Oper} {op : Oper} {a : Act} {w w' : World} {Q : Exit → Act → World → Prop}
theorem wpListIn_val (hgd : op.guard = none) {v : Value} (hd : ∀ c, op.op ≠ .defer c) (hab : op.about P w a.eval = none) (hrun : (execOp a.eval op).run P w = .ok (.value v) w')
    (h : wpListIn F n P ops Q rest (a.put op.dst v) w') : wpListIn F n P ops Q (op :: rest) a w := by
  refine wpListIn_plain hgd fun K hK => ?_
  unfold Oper.wpIn
  refine ⟨fun f hf => (by rw [hab] at hf; cases hf), ?_⟩
  rw [Oper.semAt_plain F _ _ hd, hrun]
  exact hK _ _ h
theorem nload_in (hgd : op.guard = none) (ty : TypeId) (x : Operand) (ho : op.op = .load ty x)
    (b o : Nat) (hx : a.eval x = .pointer (some ⟨b, o, none⟩)) (cs : List Value) (d : TypeDesc) (hc : w.rangeAt b o cs) (hu : P.underlying ty = some d) (hd : d.isRow = true) (hi : (P.info? ty).map (·.size) = some cs.length)
    (h : wpListIn F n P ops Q rest (a.put op.dst (.agg cs.toArray)) w) : wpListIn F n P ops Q (op :: rest) a w :=
  wpListIn_val hgd (by rw [ho]; intro c hc'; cases hc') (by simp [Oper.about, ho]) (nexec_load ty x ho b o hx cs d hc hu hd hi) h
theorem nstore_in (hgd : op.guard = none) (ty : TypeId) (x y : Operand) (ho : op.op = .store ty x y)
    (g : Nat) (cs : List Value) (hx : a.eval x = .pointer (some ⟨g, 0, none⟩)) (hy : a.eval y = .agg cs.toArray) {t : TypeId} {old : Array Value} (hb : Box w g t old) (hs : old.size = cs.length)
    (hi : (P.info? ty).map (·.size) = some cs.length) (h1 : ∀ v ∈ cs, v.oneCell' = true)
    (h : ∀ W, Box W g t cs.toArray → Kp (fun k => k = g) w W → wpListIn F n P ops Q rest (a.put op.dst undef) W) : wpListIn F n P ops Q (op :: rest) a w := by
  have hb' : Box w g t old.toList.toArray := hb
  have ht : w.there g 0 cs.toArray.size := by
    have := hb'.there
    simp only [List.size_toArray, Array.length_toList] at this ⊢
    rw [← hs]
    exact this
  refine wpListIn_plain hgd fun K hK => ?_
  unfold Oper.wpIn
  refine ⟨?_, ?_⟩
  · simp [Oper.about, ho]
  · rw [Oper.semAt_plain F _ _ (by rw [ho]; intro c hc'; cases hc')]
    simp only [execOp, ho, hx, hy, Instr.storeAt, Instr.sureAddr, Sem.run_bind, Sem.run_pure, Result.andThen_ok, run_storeVar_mid w g 0 ty cs.toArray ht (by simpa using hi) (all_oneCell_toArray h1)]
    exact hK _ _ (h _ (hb'.write (by simpa using hs.symm)) (Kp.setCells cs 0 w (Kp.refl _ w) (.inr rfl)))
theorem nnew_in {op1 op2 : Oper} {m : Nat} (hg1 : op1.guard = none) (hg2 : op2.guard = none) (t : TypeId) (ho1 : op1.op = .alloc t) (x y : Operand) (ho2 : op2.op = .store t x y)
    (hz : ZeroN P t m) (cs : List Value) (hn : cs.length = m) (hx : ∀ p, (a.put op1.dst p).eval x = p) (hy : ∀ p, (a.put op1.dst p).eval y = .agg cs.toArray) (h1 : ∀ v ∈ cs, v.oneCell' = true)
    (h : ∀ W g, w.heap.size ≤ g → Box W g t cs.toArray → Kp (fun _ => False) w W → wpListIn F n P ops Q rest ((a.put op1.dst (.pointer (some ⟨g, 0, none⟩))).put op2.dst undef) W) : wpListIn F n P ops Q (op1 :: op2 :: rest) a w := by
  obtain ⟨z, hzn, hrun⟩ := run_new (w := w) hz
  refine wpListIn_val hg1 (v := .pointer (some ⟨w.heap.size, 0, none⟩)) (w' := w.alloc (.cells z t)) (by rw [ho1]; intro c hc'; cases hc') (by simp [Oper.about, ho1]) (by
    unfold execOp
    simp only [ho1, Sem.run_bind, hrun, Result.andThen_ok, Sem.run_pure]) ?_
  refine nstore_in hg2 t x y ho2 w.heap.size cs (hx _) (hy _) (Box.new w t z) (by rw [hzn, hn]) (by rw [hn]; exact hz.size) h1 fun W hb hk => ?_
  exact h W _ (Nat.le_refl _) hb (((Kp.refl (fun _ => False) w).alloc _).trans_new hk fun _ e => .inl (by omega))
theorem nslice1_in {m : Nat} (hgd : op.guard = none) (t e : TypeId) (x : Operand) (ho : op.op = .buildSlice t 1 #[(0, x)])
    (hu : P.underlying t = some (.slice e)) (hz : ZeroN P e m) (h0 : 0 < m) (h24 : m ≤ 2 ^ 24) (cs : List Value) (hx : a.eval x = .agg cs.toArray) (hn : cs.length = m)
    (h : ∀ W g, w.heap.size ≤ g → Box W g e cs.toArray → Kp (fun _ => False) w W → W = w.alloc (.cells cs.toArray e) → g = w.heap.size → wpListIn F n P ops Q rest (a.put op.dst (.slice (some ⟨g, 0, none⟩) 1 1)) W) : wpListIn F n P ops Q (op :: rest) a w := by
  unfold ZeroN at hz
  cases hq : P.info? e with
  | none => rw [hq] at hz; cases hz
  | some i =>
    rw [hq] at hz
    simp only [Option.map_some, Option.some.injEq, Prod.mk.injEq] at hz
    cases hzz : i.zero with
    | none => rw [hzz] at hz; cases hz.1
    | some z =>
      have hs := hz.2
      have hf : Instr.fill (fun j => some (j * i.size, i.size)) ((Array.range (1 * i.size)).map (z.cells[· % z.cells.size]!)) (#[(0, x)].map fun (i, x) => (i, a.eval x)).toList = some cs.toArray := by
        generalize hZ : (Array.range (1 * i.size)).map (z.cells[· % z.cells.size]!) = Z
        have hZn : Z.size = m := by rw [← hZ]; simp [hs]
        have := fill_one (place := fun j => some (j * i.size, i.size)) (Z := Z.toList) (i := 0) (v := .agg cs.toArray) (rest := []) (n := m) (off := 0) cs (by simp [hs]) rfl hn (by simp; omega)
        have hl : (#[(0, x)].map fun (i, x) => (i, a.eval x)).toList = [(0, Value.agg cs.toArray)] := by simp [hx]
        rw [hl]
        rw [Array.toArray_toList] at this
        rw [this, Instr.fill]
        simp
        omega
      refine wpListIn_val hgd (v := .slice (some ⟨w.heap.size, 0, none⟩) 1 1) (w' := w.alloc (.cells cs.toArray e)) (by rw [ho]; intro c hc'; cases hc') (by simp [Oper.about, ho]) ?_ (h _ _ (Nat.le_refl _) (Box.new w e _) ((Kp.refl _ w).alloc _) rfl rfl)
      unfold execOp
      simp only [ho, Sem.run_bind, run_buildSlice w t e 1 _ cs.toArray i z hu hq hzz (by rw [hs]; omega) (by rw [hs]; omega) hf, Result.andThen_ok, Sem.run_pure]
end
end Go.Proofs.YtcgfnfejacgaeaaDoor
