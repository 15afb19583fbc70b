/- Bytes appended to a row that the program made itself, whatever they are: nil, none, or some. The sum is at most 2^47 bytes. -/
import Derived.Test.YtcgfnfejacgaeaaDoorMem
import Derived.Maps.AppendAt
import Derived.OwnWalk
namespace Go.Proofs.YtcgfnfejacgaeaaDoor
open Go.RowKit

section
variable {P : Program} (w : World)

theorem run_put_nil (base : Nat) (t ty e : TypeId) (i : TypeInfo) (ht : P.underlying t = some (.slice e)) (hi : P.info? e = some i)
    (v : Value) (n : Nat) (xs : List Value) (hown : w.ownsRow base e 1 v n xs) (c : Nat) : (Builtin.append_ #[t, t] ty #[v, .slice none 0 c]).run P w = .ok v w := by
  rcases hown.2 with ⟨rfl, rfl⟩ | ⟨g, cap, cur, rfl, _, _, hnc, _⟩
  · simp [Builtin.append_, run_underlying ht, sizeOf, typeInfo, hi, Builtin.lenOf, Builtin.firstCells]
  · simp [Builtin.append_, run_underlying ht, sizeOf, typeInfo, hi, Builtin.lenOf, Builtin.firstCells, hnc, storeCells]

theorem run_put (t ty e : TypeId) (i : TypeInfo) (ht : P.underlying t = some (.slice e)) (hi : P.info? e = some i) (hz : i.zero = some (.int .u8 0)) (hsize : i.size = 1) (hby : i.bytes = 1)
    (v : Value) (l s : List UInt8) (hown : w.ownsRow 0 e 1 v l.length (bcs l)) (A : Option Addr) (c : Nat) (hr : Rd w A s) (hlen : l.length + s.length ≤ 140737488355328) :
    ∃ v' w', (Builtin.append_ #[t, t] ty #[v, .slice A s.length c]).run P w = .ok v' w' ∧ w'.ownsRow 0 e 1 v' (l ++ s).length (bcs (l ++ s)) ∧ w.grownBy w' v.ownBlock ∧ (v'.ownBlock = v.ownBlock ∨ v'.ownBlock = some w.heap.size) := by
  rcases hr with rfl | ⟨b, o, rfl, hc⟩
  · rcases A with _ | a
    · exact ⟨v, w, run_put_nil w 0 t ty e i ht hi v _ _ hown c, by simpa using hown, ⟨rfl, rfl, rfl, Nat.le_refl _, fun _ _ _ => rfl⟩, .inl rfl⟩
    · obtain ⟨v', w', h1, h2, h3, _, h5⟩ := run_append_own_at (P := P) w 0 t ty e i _ 1 1 ht hi hz hsize hby rfl (by omega) v _ _ hown a 0 c [] rfl (by intro j u hu; simp at hu) (by simp) (by simp only [maxLen]; simp at hlen; omega) (by simp at hlen; omega) (Nat.zero_le _)
      exact ⟨v', w', h1, by simpa using h2, h3, h5⟩
  · obtain ⟨v', w', h1, h2, h3, _, h5⟩ := run_append_own_at (P := P) w 0 t ty e i _ 1 1 ht hi hz hsize hby rfl (by omega) v _ _ hown ⟨b, o, none⟩ s.length c (bcs s) (by rw [bcs_length, Nat.mul_one])
      (by
        intro j u hu
        rw [bcs_get] at hu
        obtain ⟨x, hx, rfl⟩ := Option.map_eq_some_iff.1 hu
        have := hc j x hx
        have e : (⟨b, o, none⟩ : Addr).add j = ⟨b, o + j, none⟩ := by unfold Addr.add; split <;> simp_all
        rw [e]
        exact this)
      (bcs_one s) (by simp only [maxLen]; omega) (by omega) (Nat.zero_le _)
    exact ⟨v', w', h1, by simpa [bcs_append] using h2, h3, h5⟩

theorem wpList_put {ops : Array Oper} {rest : List Oper} {o : Oper} {a : Act} {Q : Exit → Act → World → Prop} (hgd : o.guard = none) (x y : Operand) (t : TypeId)
    (ho : o.op = .call { callee := .builtin .append, args := #[x, y], argTypes := #[t, t] })
    (e : TypeId) (i : TypeInfo) (ht : P.underlying t = some (.slice e)) (hi : P.info? e = some i) (hz : i.zero = some (.int .u8 0)) (hsize : i.size = 1) (hby : i.bytes = 1)
    (v : Value) (hx : a.eval x = v) (l s : List UInt8) (hown : w.ownsRow 0 e 1 v l.length (bcs l)) (A : Option Addr) (m c : Nat) (hy : a.eval y = .slice A m c) (hm : s.length = m) (hr : Rd w A s) (hlen : l.length + s.length ≤ 140737488355328)
    (h : ∀ v' w', w'.ownsRow 0 e 1 v' (l ++ s).length (bcs (l ++ s)) → w.grownBy w' v.ownBlock → (v'.ownBlock = v.ownBlock ∨ v'.ownBlock = some w.heap.size) → wpList P ops Q rest (a.put o.dst v') w') : wpList P ops Q (o :: rest) a w :=
  wpList_plain hgd fun _ hK => by
    subst hm
    obtain ⟨v', w', hrun, h2, h3, h4⟩ := run_put (P := P) w t o.type e i ht hi hz hsize hby v l s hown A c hr hlen
    unfold Oper.wp execOp
    simp only [ho, resolve, invoke, builtin, Sem.run_bind, Sem.run_pure, Result.andThen_ok, List.map_toArray, List.map_cons, List.map_nil, hx, hy, hrun]
    exact hK _ _ (h v' w' h2 h3 h4)
end

end Go.Proofs.YtcgfnfejacgaeaaDoor
