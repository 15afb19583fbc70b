/- Bytes appended to a row that the program made itself since a point in time (the heap had B blocks then): nil, none, or some. The sum is at most 2^47 bytes. And small words on such rows. -/
import Derived.Test.YtbchfpcdmkldeaaDoorMem
import Derived.Maps.AppendAt
import Derived.OwnWalk
import Derived.Lib.SmallJoins
import Derived.Test.YtbchfpcdmkldeaaDoorChecked
namespace Go.Proofs.YtbchfpcdmkldeaaDoor
open Go.RowKit

section
variable {P : Program} (w : World)

theorem run_putB_nil (base : Nat) (t ty e : TypeId) (i : TypeInfo) (ht : P.underlying t = some (.slice e)) (hi : P.info? e = some i)
    (v : Value) (n : Nat) (xs : List Value) (hown : w.ownsRow base e 1 v n xs) (c : Nat) : (Builtin.append_ #[t, t] ty #[v, .slice none 0 c]).run P w = .ok v w := by
  rcases hown.2 with ⟨rfl, rfl⟩ | ⟨g, cap, cur, rfl, _, _, hnc, _⟩
  · simp [Builtin.append_, run_underlying ht, sizeOf, typeInfo, hi, Builtin.lenOf, Builtin.firstCells]
  · simp [Builtin.append_, run_underlying ht, sizeOf, typeInfo, hi, Builtin.lenOf, Builtin.firstCells, hnc, storeCells]

theorem run_putB (B : Nat) (hB : B ≤ w.heap.size) (t ty e : TypeId) (i : TypeInfo) (ht : P.underlying t = some (.slice e)) (hi : P.info? e = some i) (hz : i.zero = some (.int .u8 0)) (hsize : i.size = 1) (hby : i.bytes = 1)
    (v : Value) (l s : List UInt8) (hown : w.ownsRow B e 1 v l.length (bcs l)) (A : Option Addr) (c : Nat) (hr : Rd w A s) (hlen : l.length + s.length ≤ 140737488355328) :
    ∃ v' w', (Builtin.append_ #[t, t] ty #[v, .slice A s.length c]).run P w = .ok v' w' ∧ w'.ownsRow B e 1 v' (l ++ s).length (bcs (l ++ s)) ∧ w.grownBy w' v.ownBlock ∧ (v'.ownBlock = v.ownBlock ∨ v'.ownBlock = some w.heap.size) := by
  rcases hr with rfl | ⟨b, o, rfl, hc⟩
  · rcases A with _ | a
    · exact ⟨v, w, run_putB_nil w B t ty e i ht hi v _ _ hown c, by simpa using hown, ⟨rfl, rfl, rfl, Nat.le_refl _, fun _ _ _ => rfl⟩, .inl rfl⟩
    · obtain ⟨v', w', h1, h2, h3, _, h5⟩ := run_append_own_at (P := P) w B t ty e i _ 1 1 ht hi hz hsize hby rfl (by omega) v _ _ hown a 0 c [] rfl (by intro j u hu; simp at hu) (by simp) (by simp only [maxLen]; simp at hlen; omega) (by simp at hlen; omega) hB
      exact ⟨v', w', h1, by simpa using h2, h3, h5⟩
  · obtain ⟨v', w', h1, h2, h3, _, h5⟩ := run_append_own_at (P := P) w B t ty e i _ 1 1 ht hi hz hsize hby rfl (by omega) v _ _ hown ⟨b, o, none⟩ s.length c (bcs s) (by rw [bcs_length, Nat.mul_one])
      (by
        intro j u hu
        rw [bcs_get] at hu
        obtain ⟨x, hx, rfl⟩ := Option.map_eq_some_iff.1 hu
        have := hc j x hx
        have e : (⟨b, o, none⟩ : Addr).add j = ⟨b, o + j, none⟩ := by unfold Addr.add; split <;> simp_all
        rw [e]
        exact this)
      (bcs_one s) (by simp only [maxLen]; omega) (by omega) hB
    exact ⟨v', w', h1, by simpa [bcs_append] using h2, h3, h5⟩

theorem wpList_putB (B : Nat) (hB : B ≤ w.heap.size) {ops : Array Oper} {rest : List Oper} {o : Oper} {a : Act} {Q : Exit → Act → World → Prop} (hgd : o.guard = none) (x y : Operand) (t : TypeId)
    (ho : o.op = .call { callee := .builtin .append, args := #[x, y], argTypes := #[t, t] })
    (e : TypeId) (i : TypeInfo) (ht : P.underlying t = some (.slice e)) (hi : P.info? e = some i) (hz : i.zero = some (.int .u8 0)) (hsize : i.size = 1) (hby : i.bytes = 1)
    (v : Value) (hx : a.eval x = v) (l s : List UInt8) (hown : w.ownsRow B e 1 v l.length (bcs l)) (A : Option Addr) (m c : Nat) (hy : a.eval y = .slice A m c) (hm : s.length = m) (hr : Rd w A s) (hlen : l.length + s.length ≤ 140737488355328)
    (h : ∀ v' w', w'.ownsRow B e 1 v' (l ++ s).length (bcs (l ++ s)) → w.grownBy w' v.ownBlock → (v'.ownBlock = v.ownBlock ∨ v'.ownBlock = some w.heap.size) → wpList P ops Q rest (a.put o.dst v') w') : wpList P ops Q (o :: rest) a w :=
  wpList_plain hgd fun _ hK => by
    subst hm
    obtain ⟨v', w', hrun, h2, h3, h4⟩ := run_putB (P := P) w B hB t o.type e i ht hi hz hsize hby v l s hown A c hr hlen
    unfold Oper.wp execOp
    simp only [ho, resolve, invoke, builtin, Sem.run_bind, Sem.run_pure, Result.andThen_ok, List.map_toArray, List.map_cons, List.map_nil, hx, hy, hrun]
    exact hK _ _ (h v' w' h2 h3 h4)
end

theorem Joins.ownsRow_form' {w : World} {base size n : Nat} {e : TypeId} {v : Value} {xs : List Value} (h : w.ownsRow base e size v n xs) (hn : 0 < n) : ∃ g cap, v = .slice (some ⟨g, 0, none⟩) n cap ∧ base ≤ g ∧ g < w.heap.size := by
  rcases h.2 with ⟨_, h0⟩ | ⟨g, cap, cur, hv, hb, hg, _⟩
  · omega
  · refine ⟨g, cap, hv, hb, ?_⟩
    rcases Nat.lt_or_ge g w.heap.size with hlt | hge
    · exact hlt
    · rw [Array.getElem?_eq_none hge] at hg; cases hg
theorem own_shape' {w : World} {B e n : Nat} {v : Value} {xs : List Value} (h : w.ownsRow B e 1 v n xs) : ∃ A c, v = .slice A n c := by
  rcases h.2 with ⟨rfl, rfl⟩ | ⟨g, cap, _, rfl, _⟩
  · exact ⟨_, _, rfl⟩
  · exact ⟨_, _, rfl⟩
theorem Rd.kp_new' {S : Nat → Prop} {w w' : World} {A : Option Addr} {l : List UInt8} (h : Rd w A l) (hk : Kp S w w') (hs : ∀ k, S k → w.heap.size ≤ k) : Rd w' A l :=
  h.keep fun a i _ _ hc => by
    have hlt := World.block_lt_of_cell? w ⟨a.block, i, none⟩ hc
    exact hk.cell (p := ⟨a.block, i, none⟩) hlt (fun e => Nat.lt_irrefl _ (Nat.lt_of_lt_of_le hlt (hs _ e)))
theorem info_byt : (Tryd.prog.info? 5).map (fun i => (i.zero, i.size, i.bytes)) = some (some (.int .u8 0), 1, 1) := by kernel_rfl
theorem rd_mark (w : World) (t : TypeId) (l : List UInt8) (f : Nat × Nat) (g : Nat) (hg : g = w.heap.size) : Rd (w.alloc (.cells (bcs l).toArray t f)) (some ⟨g, 0, none⟩) l :=
  .inr ⟨_, 0, rfl, fun j u hu => by rw [Joins.cell_alloc_mark_at w _ t f g _ hg, Nat.zero_add]; simp [bcs, hu]⟩
end Go.Proofs.YtbchfpcdmkldeaaDoor
