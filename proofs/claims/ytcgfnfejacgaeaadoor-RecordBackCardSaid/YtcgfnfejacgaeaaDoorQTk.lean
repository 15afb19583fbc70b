/- A quiet region's walk, an operation at a time, in few words. No condition. -/
import Derived.Test.YtcgfnfejacgaeaaDoorMem2
import Derived.Test.YtcgfnfejacgaeaaDoorChecked
import Derived.Deep.QuietTactic
import Derived.IntWalk
namespace Go.Proofs.YtcgfnfejacgaeaaDoor
open Go.RowKit
section
variable {P : Program} {ops : Array Oper} {C : World → Prop} {Q : Act → Prop}
/-- The walk, behind a wall. -/
structure Wq (P : Program) (ops : Array Oper) (C : World → Prop) (Q : Act → Prop) (l : List Oper) (a : Act) : Prop where
  out : wpQuiet P ops C Q l a
/-- A pure operation, or one that reads what the class knows. -/
theorem qtk {o : Oper} {rest : List Oper} {a a' : Act} {v : Value}
    (hy : ∀ w, C w → o.quietAt P a C w v := by (intro v hv; unfold Oper.quietAt; go_simp; with_reducible rfl))
    (hw : Region.wanted o (yielded ops a.tmps) = true := by rfl)
    (ha : a.put o.dst v = a' := by ((try simp only [Act.put, List.setIfInBounds_toArray, List.set_cons_zero, List.set_cons_succ]); exact rfl))
    (h : Wq P ops C Q rest a') : Wq P ops C Q (o :: rest) a := by
  refine ⟨wpQuiet_step fun K hK => ?_⟩
  rw [if_pos hw]
  exact ⟨v, hy, hK _ (by rw [ha]; exact h.out)⟩
/-- One that the guard does not let through. -/
theorem qsk {o : Oper} {rest : List Oper} {a a' : Act}
    (hw : Region.wanted o (yielded ops a.tmps) = false := by rfl)
    (ha : a.put o.dst undef = a' := by ((try simp only [Act.put, List.setIfInBounds_toArray, List.set_cons_zero, List.set_cons_succ]); exact rfl))
    (h : Wq P ops C Q rest a') : Wq P ops C Q (o :: rest) a := by
  refine ⟨wpQuiet_step fun K hK => ?_⟩
  rw [if_neg (by rw [hw]; exact Bool.false_ne_true)]
  exact hK _ (by rw [ha]; exact h.out)
theorem quiet_load_mid {op : Oper} {a : Act} {K : Act → Prop} (ty : TypeId) (x : Operand) (ho : op.op = .load ty x)
    (b o : Nat) (hx : a.eval x = .pointer (some ⟨b, o, none⟩)) (cs : List Value) (d : TypeDesc) (hc : ∀ w, C w → w.rangeAt b o cs)
    (hu : P.underlying ty = some d) (hd : d.isRow = true) (hi : (P.info? ty).map (·.size) = some cs.length)
    (h : K (a.put op.dst (.agg cs.toArray))) : op.quiet P a C K := by
  refine ⟨_, fun w hw => ?_, h⟩
  unfold Oper.quietAt execOp
  simp only [ho, hx, Instr.loadAt, Instr.sureAddr, Sem.run_bind, Sem.run_pure, Result.andThen_ok, run_loadVar_mid w b o ty cs d (hc w hw) hu hd hi]
  exact ⟨rfl, rfl⟩
/-- A whole struct that is read. -/
theorem qld (b o : Nat) (cs : List Value) {op : Oper} {rest : List Oper} {a a' : Act} {ty : TypeId} {x : Operand} {d : TypeDesc}
    (hc : ∀ w, C w → w.rangeAt b o cs) (hu : P.underlying ty = some d)
    (ho : op.op = .load ty x := by exact rfl) (hx : a.eval x = .pointer (some ⟨b, o, none⟩) := by rfl)
    (hi : (P.info? ty).map (·.size) = some cs.length := by kernel_rfl) (hd : d.isRow = true := by rfl)
    (hw : Region.wanted op (yielded ops a.tmps) = true := by rfl)
    (ha : a.put op.dst (.agg cs.toArray) = a' := by ((try simp only [Act.put, List.setIfInBounds_toArray, List.set_cons_zero, List.set_cons_succ]); exact rfl))
    (h : Wq P ops C Q rest a') : Wq P ops C Q (op :: rest) a := by
  refine ⟨wpQuiet_step fun K hK => ?_⟩
  rw [if_pos hw]
  exact quiet_load_mid ty x ho b o hx cs d hc hu hd hi (hK _ (by rw [ha]; exact h.out))
end
theorem Box.range {w : World} {g : Nat} {t : TypeId} {cs : Array Value} (h : Box w g t cs) : w.rangeAt g 0 cs.toList := by
  intro j v hj
  rw [Nat.zero_add, h.cell]
  simpa using hj
end Go.Proofs.YtcgfnfejacgaeaaDoor
