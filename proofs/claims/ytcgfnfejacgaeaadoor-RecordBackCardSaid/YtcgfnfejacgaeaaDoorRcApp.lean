/- Bytes appended to a row of one's own: nil, none, or some. No condition but the sum's. -/
import Derived.Test.YtcgfnfejacgaeaaDoorApp
import Derived.Test.YtcgfnfejacgaeaaDoorRcSec
import Derived.Test.YtcgfnfejacgaeaaDoorRgIn
namespace Go.Proofs.YtcgfnfejacgaeaaDoor
open Go.RowKit

theorem info_by : (Tryd.prog.info? 5).map (fun i => (i.zero, i.size, i.bytes)) = some (some (.int .u8 0), 1, 1) := by kernel_rfl
/-- The row v of bytes l, made since w; all that was there then is as it was. -/
structure Ow (w W : World) (v : Value) (l : List UInt8) : Prop where
  own : W.ownsRow 0 5 1 v l.length (bcs l)
  new : ∀ k, v.ownBlock = some k → w.heap.size ≤ k
  kp : Kp (fun _ => False) w W
section
variable {w W W' : World} {v : Value} {l : List UInt8} {A : Option Addr} {n c : Nat}
theorem Ow.nil (w : World) : Ow w w (.slice none 0 0) [] := ⟨World.ownsRow_nil _ _ _ _, (fun k e => by cases e), Kp.refl _ _⟩
theorem Ow.still (h : Ow w W v l) (hk : Kp (fun _ => False) W W') : Ow w W' v l := ⟨own_kp h.own hk (fun _ _ e => e), h.new, h.kp.trans hk⟩
theorem Ow.rd (h : Ow w W (.slice A n c) l) : Rd W A l := by
  rcases h.own.2 with ⟨e, h0⟩ | ⟨g, cap, cur, e, _⟩
  · exact .inl (List.eq_nil_of_length_eq_zero h0)
  · have h' := h.own
    injection e with e1 e2 e3
    subst e2
    exact Rd.of_own h'
theorem Ow.len (h : Ow w W (.slice A n c) l) : l.length = n ∧ n ≤ c ∧ c ≤ maxLen := by
  rcases h.own.2 with ⟨e, h0⟩ | ⟨g, cap, cur, e, _, _, hc, hm, _⟩
  · injection e with e1 e2 e3
    subst e2; subst e3
    exact ⟨h0, Nat.le_refl _, by simp [maxLen]⟩
  · injection e with e1 e2 e3
    subst e2; subst e3
    exact ⟨rfl, hc, hm⟩
end
theorem wpList_app {ops : Array Oper} {rest : List Oper} {o : Oper} {a : Act} {w w0 : World} {Q : Exit → Act → World → Prop} (hgd : o.guard = none) (x y : Operand)
    (ho : o.op = .call { callee := .builtin .append, args := #[x, y], argTypes := #[23, 23] })
    (v : Value) (hx : a.eval x = v) (l s : List UInt8) (h : Ow w0 w v l) (A : Option Addr) (m c : Nat) (hy : a.eval y = .slice A m c) (hm : s.length = m) (hr : Rd w A s) (n : Nat) (hn : l.length + m = n) (hlen : n ≤ 140737488355328)
    (hK : ∀ A' c' W', Ow w0 W' (.slice A' n c') (l ++ s) → n ≤ c' → c' ≤ maxLen → Kp (fun k => v.ownBlock = some k) w W' → wpList Tryd.prog ops Q rest (a.put o.dst (.slice A' n c')) W') : wpList Tryd.prog ops Q (o :: rest) a w := by
  obtain ⟨i0, hi, hz0, hz1, hz2⟩ := info_parts info_by
  refine wpList_put w hgd x y 23 ho 5 i0 Tryd.underlying23 hi hz0 hz1 hz2 v hx l s h.own A m c hy hm hr (by omega) fun v' w' h2 h3 h4 => ?_
  have hl : (l ++ s).length = n := by rw [List.length_append]; omega
  have hk : Kp (fun k => v.ownBlock = some k) w w' := (Kp.refl _ w).grown h3 fun k e => .inr e
  have hs := h.kp.size
  have hnew : ∀ k, v'.ownBlock = some k → w0.heap.size ≤ k := fun k e => by
    rcases h4 with e' | e' <;> rw [e'] at e
    · exact h.new k e
    · cases e; exact hs
  rw [hl] at h2
  have hkp : Kp (fun _ => False) w0 w' := h.kp.trans_new hk fun k e => .inl (h.new k e)
  have ho2 : ∀ n', n' = n → w'.ownsRow 0 5 1 v' n' (bcs (l ++ s)) := fun n' e => by rw [e]; exact h2
  rcases h2.2 with ⟨rfl, rfl⟩ | ⟨g, cap, cur, rfl, _, _, hc, hm', _⟩
  · exact hK none 0 w' ⟨ho2 _ hl, hnew, hkp⟩ (Nat.le_refl _) (by simp [maxLen]) hk
  · exact hK (some ⟨g, 0, none⟩) cap w' ⟨ho2 _ hl, hnew, hkp⟩ hc hm' hk
theorem qbuild {P : Program} {ops : Array Oper} {C : World → Prop} {Q : Act → Prop} {o : Oper} {rest : List Oper} {a a' : Act} (t : TypeId) (ps : List (Nat × Operand)) (ho : o.op = .build t ps.toArray) (cells : Array Value) (hb : P.built t (ps.map fun x => (x.1, a.eval x.2)) = some cells)
    (hw : Region.wanted o (yielded ops a.tmps) = true := by rfl)
    (ha : a.put o.dst (.agg cells) = a' := by ((try simp only [Act.put, List.setIfInBounds_toArray, List.set_cons_zero, List.set_cons_succ]); exact rfl))
    (h : Wq P ops C Q rest a') : Wq P ops C Q (o :: rest) a := by
  have e : (ps.toArray.map fun (i, x) => (i, a.eval x)).toList = ps.map fun x => (x.1, a.eval x.2) := by simp
  refine qtk (v := .agg cells) (hy := fun v _ => ?_) hw ha h
  unfold Oper.quietAt execOp
  simp only [ho, Sem.run_bind, run_build v t _ cells (by rw [e]; exact hb), Result.andThen_ok]
  exact ⟨rfl, rfl⟩
theorem qcmp {P : Program} {ops : Array Oper} {C : World → Prop} {Q : Act → Prop} {op : Oper} {rest : List Oper} {a a' : Act} (bo : BinOp) (t t2 : TypeId) (x y : Operand) (ho : op.op = .binOp bo t x y t2)
    (us vs : Array Value) (r : Value) (hx : a.eval x = .agg us) (hy : a.eval y = .agg vs) (hm : P.eqGuardType P.depth t = false) (hrun : ∀ w, (binOp bo t (.agg us) (.agg vs)).run P w = .ok r w)
    (hw : Region.wanted op (yielded ops a.tmps) = true := by rfl)
    (ha : a.put op.dst r = a' := by ((try simp only [Act.put, List.setIfInBounds_toArray, List.set_cons_zero, List.set_cons_succ]); exact rfl))
    (h : Wq P ops C Q rest a') : Wq P ops C Q (op :: rest) a := by
  refine qtk (v := r) (hy := fun v _ => ?_) hw ha h
  unfold Oper.quietAt
  rw [exec_cmp bo t t2 x y ho us vs r hx hy hm hrun]
  exact ⟨rfl, rfl⟩
end Go.Proofs.YtcgfnfejacgaeaaDoor
