/- A map is equal to itself. No condition. -/
import Derived.Test.YtlhfdoaknfgemaaDoorBtUsed
import Derived.Laws.StructEq
namespace Go.Proofs.YtlhfdoaknfgemaaDoor
open Go.RowKit

theorem eq_words (w : World) (d : Nat) (t e : TypeId) (ht : Tryd.prog.underlying t = some (.array 16 e)) (he : Tryd.prog.underlying e = some (.int .u64)) (hsz : ∀ w, (sizeOf e).run Tryd.prog w = .ok 1 w) (f : Nat → Bool) :
    (Op.equalIn (d + 2) t (.agg (wcs f).toArray) (.agg (wcs f).toArray)).run Tryd.prog w = .ok true w := by
  rw [Op.equalIn]
  simp only [Sem.run_bind, run_underlying ht, Result.andThen_ok, hsz, Std.Legacy.Range.forIn_eq_forIn_range', Std.Legacy.Range.size, Nat.sub_zero, Nat.add_sub_cancel, Nat.div_one]
  have hl : ∀ i ∈ List.range' 0 16 1, i < 16 := fun i hi => by simpa using (List.mem_range'_1.1 hi).2
  generalize List.range' 0 16 1 = l at hl ⊢
  induction l with
  | nil => simp
  | cons i l ih =>
    have hi : i < 16 := hl i (by simp)
    have px : (part e (wcs f).toArray (i * 1)).run Tryd.prog w = .ok (.int .u64 ((wd f i : Nat) : Int)) w := by
      have hg := wcs_get f i hi
      simp [part, isAgg, run_underlying he, hg]
    have pe : (Op.equalIn (d + 1) e (.int .u64 ((wd f i : Nat) : Int)) (.int .u64 ((wd f i : Nat) : Int))).run Tryd.prog w = .ok true w := by
      rw [run_equalIn_int w d e .u64 .u64 _ _ he]
      simp
    simp only [List.forIn_cons, Sem.run_bind, px, pe, Result.andThen_ok]
    simp only [Bool.not_true, Bool.false_eq_true, if_false, Sem.run_pure, Result.andThen_ok]
    exact ih fun j hj => hl j (by simp [hj])
theorem mcs_take (f : Nat → Bool) (n : Nat) : List.take 16 (mcs f n) = wcs f := by
  have h : mcs f n = wcs f ++ [.int .i64 (n : Int)] := rfl
  rw [h, List.take_append_of_le_length (by rw [wcs_length]; decide), List.take_of_length_le (by rw [wcs_length]; decide)]
theorem eql_map (f : Nat → Bool) (n : Nat) (w : World) : (binOp .eql 27 (.agg (mcs f n).toArray) (.agg (mcs f n).toArray)).run Tryd.prog w = .ok (.bool true) w := by
  have hS : Tryd.prog.underlying 27 = some (.struct (Tryd.prog.fieldsOf 27)) := by kernel_rfl
  have hp : Tryd.prog.stoodInHeld 27 = false := by kernel_rfl
  have u1 := Tryd.underlying24
  have u2 := Tryd.underlying25
  have u3 := Tryd.underlying3
  have a1 := Tryd.isAgg25
  have a3 := Tryd.isAgg3
  have z1 := Tryd.sizeOf24
  have z2 := Tryd.sizeOf25
  have z3 := Tryd.sizeOf3
  have hpg := mcs_pages f n
  have hw := mcs_take f n
  rw [run_eql_struct, show (10000 : Nat) = 9999 + 1 from rfl, run_equalIn_agg w 9999 27 _ _ hS hp]
  simp only [Program.fieldsOf, Tryd.underlying27]
  go_simp
  have he := eq_words w 9997 25 24 u2 u1 z1 f
  simp only [Nat.reduceAdd] at he
  rw [he]
  rfl
theorem wp_eql_known {P : Program} {op : Oper} {a : Act} {w : World} {K : Act → World → Prop} {Q : Exit → Act → World → Prop} (t t2 : TypeId) (x y : Operand) (ho : op.op = .binOp .eql t x y t2)
    (us vs : Array Value) (r : Value) (hx : a.eval x = .agg us) (hy : a.eval y = .agg vs) (hm : P.eqGuardType P.depth t = false) (hrun : (binOp .eql t (.agg us) (.agg vs)).run P w = .ok r w) (h : K (a.put op.dst r) w) : op.wp P a w K Q := by
  unfold Oper.wp execOp
  simp only [ho, hx, hy, Sem.run_bind, Sem.run_pure, Result.andThen_ok, run_eqGuard_agg w .eql t x y us vs hm, hrun]
  exact h
end Go.Proofs.YtlhfdoaknfgemaaDoor
