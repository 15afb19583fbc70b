/- A variable that is made, and stored whole behind an assignment. No condition. -/
import Derived.Test.YtoonihhjdmkflaaBlk
namespace Go.Proofs.Ytoonihhjdmkflaa
open Go.RowKit
section
variable {P : Program} {w : World} {n : Nat}
theorem wpList_newA {ops : Array Oper} {rest : List Oper} {op1 om op2 : Oper} {a : Act} {Q : Exit → Act → World → Prop} (hg1 : op1.guard = none) (hgm : om.guard = none) (hg2 : op2.guard = none) (t : TypeId) (ho1 : op1.op = .alloc t) (z : Operand) (hom : om.op = .assign z) (x y : Operand) (ho2 : op2.op = .store t x y)
    (hz : ZeroN P t n) (cs : List Value) (hn : cs.length = n) (hx : ∀ p, ((a.put op1.dst p).put om.dst ((a.put op1.dst p).eval z)).eval x = p) (hy : ∀ p, ((a.put op1.dst p).put om.dst ((a.put op1.dst p).eval z)).eval y = .agg cs.toArray) (h1 : ∀ v ∈ cs, v.oneCell' = true)
    (h : ∀ W g, w.heap.size ≤ g → Box W g t cs.toArray → Kp (fun _ => False) w W → wpList P ops Q rest (((a.put op1.dst (.pointer (some ⟨g, 0, none⟩))).put om.dst ((a.put op1.dst (.pointer (some ⟨g, 0, none⟩))).eval z)).put op2.dst undef) W) : wpList P ops Q (op1 :: om :: op2 :: rest) a w := by
  obtain ⟨zc, hzn, hrun⟩ := run_new (w := w) hz
  refine wpList_plain hg1 fun K hK => ?_
  unfold Oper.wp execOp
  simp only [ho1, Sem.run_bind, hrun, Result.andThen_ok, Sem.run_pure]
  refine hK _ _ ?_
  refine wpList_plain hgm fun K2 hK2 => ?_
  unfold Oper.wp execOp
  simp only [hom, Sem.run_pure]
  refine hK2 _ _ ?_
  have hb := Box.new w t zc
  have hb' : Box (w.alloc (.cells zc t)) w.heap.size t zc.toList.toArray := hb
  refine wpList_store_mid hg2 t x y ho2 w.heap.size 0 cs.toArray (hx _) (hy _) ?_ (by rw [List.size_toArray, hn]; exact hz.size) (all_oneCell_toArray h1) ?_
  · have := hb'.there
    simp only [List.size_toArray, Array.length_toList] at this ⊢
    rw [hn, ← hzn]
    exact this
  · refine h _ _ (Nat.le_refl _) (hb'.write (by simp; omega)) ?_
    exact Kp.setCells cs 0 _ ((Kp.refl (fun _ => False) w).alloc _) (.inl (Nat.le_refl _))
end
end Go.Proofs.Ytoonihhjdmkflaa
