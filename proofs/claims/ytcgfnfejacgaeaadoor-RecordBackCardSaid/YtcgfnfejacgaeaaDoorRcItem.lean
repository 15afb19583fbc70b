/- The law's items, in memory; where a record's cells lie in a row. No condition. -/
import Derived.Test.YtcgfnfejacgaeaaDoorRcWake
namespace Go.Proofs.YtcgfnfejacgaeaaDoor
open Go.RowKit

structure Im where
  x : UInt8
  d : ByteArray
def Im.rc (y : Im) : Rc := ⟨h1 y.x, byt y.d⟩
def rsI (l : List Im) : List Rc := l.map Im.rc
def RdI (w : World) (A : Option Addr) (l : List Im) : Prop :=
  l = [] ∨ ∃ b o, A = some ⟨b, o, none⟩ ∧ ∀ j y, l[j]? = some y → w.cell? ⟨b, o + j * 2, none⟩ = some (.int .u8 y.x.toNat) ∧ w.cell? ⟨b, o + j * 2 + 1, none⟩ = some (.string y.d)
theorem RdI.still {w w' : World} {A : Option Addr} {l : List Im} (h : RdI w A l) (hk : Kp (fun _ => False) w w') : RdI w' A l := by
  rcases h with h | ⟨b, o, hA, hc⟩
  · exact .inl h
  · refine .inr ⟨b, o, hA, fun j y hy => ?_⟩
    obtain ⟨h1, h2⟩ := hc j y hy
    exact ⟨(hk.cell (p := ⟨b, o + j * 2, none⟩) (World.block_lt_of_cell? w ⟨b, o + j * 2, none⟩ h1) (fun e => e)).trans h1, (hk.cell (p := ⟨b, o + j * 2 + 1, none⟩) (World.block_lt_of_cell? w ⟨b, o + j * 2 + 1, none⟩ h2) (fun e => e)).trans h2⟩
theorem RdI.at {w : World} {A : Option Addr} {l : List Im} (h : RdI w A l) {k : Nat} {y : Im} (hy : l[k]? = some y) : ∃ b o, A = some ⟨b, o, none⟩ ∧ w.cell? ⟨b, o + k * 2, none⟩ = some (.int .u8 y.x.toNat) ∧ w.cell? ⟨b, o + k * 2 + 1, none⟩ = some (.string y.d) := by
  rcases h with rfl | ⟨b, o, hA, hc⟩
  · simp at hy
  · exact ⟨b, o, hA, hc k y hy⟩
theorem rsI_at {l : List Im} {k : Nat} {y : Im} (hy : l[k]? = some y) : (rsI l)[k]? = some y.rc := by simp [rsI, hy]
theorem rsI_len (l : List Im) : (rsI l).length = l.length := by simp [rsI]
theorem rsI_next {l : List Im} {k : Nat} {y : Im} (hy : l[k]? = some y) : rcsL ((rsI l).take (k + 1)) = rcsL ((rsI l).take k) ++ rcL y.rc := by
  have hk : k < l.length := (List.getElem?_eq_some_iff.1 hy).1
  have hk' : k < (rsI l).length := by rw [rsI_len]; exact hk
  rw [rcsL_take hk']
  have := rsI_at hy
  rw [List.getElem?_eq_getElem hk'] at this
  rw [Option.some.inj this]
theorem rc_len (y : Im) : (rcL y.rc).length = 34 + y.d.size := by rw [rcL_len rfl]; simp [Im.rc, byt_len]
theorem flat_at {α : Type} (f : α → List Value) (n : Nat) : ∀ (L : List α), (∀ x ∈ L, (f x).length = n) → ∀ (k : Nat) (h : k < L.length) (j : Nat), j < n → (L.flatMap f)[k * n + j]? = (f L[k])[j]?
  | [], _, k, h, _, _ => absurd h (by simp)
  | x :: L, hl, 0, _, j, hj => by
    rw [List.flatMap_cons, Nat.zero_mul, Nat.zero_add, List.getElem?_append_left (by rw [hl x List.mem_cons_self]; exact hj)]
    rfl
  | x :: L, hl, k + 1, h, j, hj => by
    have hx := hl x List.mem_cons_self
    have e : (k + 1) * n + j = (f x).length + (k * n + j) := by rw [hx, Nat.add_mul, Nat.one_mul]; omega
    rw [List.flatMap_cons, e, List.getElem?_append_right (Nat.le_add_right _ _), Nat.add_sub_cancel_left]
    exact flat_at f n L (fun y hy => hl y (List.mem_cons_of_mem _ hy)) k (by simpa using h) j hj
theorem row_at {l : List Im} {k : Nat} {y : Im} (hy : l[k]? = some y) (j : Nat) (u : Value) (hu : (rcv (rcsL ((rsI l).take k)).length (h1 y.x) y.d)[j]? = some u) : (rowR (rsI l) (List.finRange (rsI l).length))[k * 34 + j]? = some u := by
  have hk : k < (rsI l).length := by rw [rsI_len]; exact (List.getElem?_eq_some_iff.1 hy).1
  have hj : j < 34 := by
    have := (List.getElem?_eq_some_iff.1 hu).1
    rwa [rcv_len rfl] at this
  have hr : (rsI l)[k] = y.rc := by
    have := rsI_at hy
    rw [List.getElem?_eq_getElem hk] at this
    exact Option.some.inj this
  have hall : ∀ x ∈ List.finRange (rsI l).length, (recC (rsI l) x).length = 34 := fun x _ => rcv_len (by
    show ((rsI l)[x.1]).hash.length = 32
    simp [rsI, Im.rc, h1])
  rw [rowR, flat_at (recC (rsI l)) 34 _ hall k (by rw [List.length_finRange]; exact hk) j hj]
  have e : recC (rsI l) ((List.finRange (rsI l).length)[k]'(by rw [List.length_finRange]; exact hk)) = rcv (rcsL ((rsI l).take k)).length (h1 y.x) y.d := by
    rw [List.getElem_finRange]
    show rcv (rcsL ((rsI l).take k)).length (rsI l)[k].hash ⟨(rsI l)[k].data.toArray⟩ = _
    rw [hr]
    show rcv _ (h1 y.x) ⟨(byt y.d).toArray⟩ = _
    rw [mk_byt]
  rw [e]
  exact hu
theorem row_shape {w : World} {base k : Nat} {l : List Im} {v : Value} {xs : List Value} (h : w.ownsRow base 49 34 v (rsI l).length xs) (hk : l.length = k) : ∃ vA vc, v = .slice vA k vc ∧ (0 < k → ∃ g, vA = some ⟨g, 0, none⟩ ∧ ∀ i u, xs[i]? = some u → w.cell? ⟨g, i, none⟩ = some u) := by
  rw [rsI_len, hk] at h
  rcases Nat.eq_zero_or_pos k with h0 | h0
  · obtain ⟨A, c, e⟩ := own_shapeR h
    exact ⟨A, c, e, fun h' => absurd h' (by omega)⟩
  · obtain ⟨g, c, e, _, _, hc⟩ := own_at h h0
    exact ⟨_, _, e, fun _ => ⟨g, rfl, hc⟩⟩
theorem exec_build {P : Program} {o : Oper} {a : Act} {w : World} (t : TypeId) (ps : List (Nat × Operand)) (ho : o.op = .build t ps.toArray) (cells : Array Value) (hb : P.built t (ps.map fun x => (x.1, a.eval x.2)) = some cells) :
    (execOp a.eval o).run P w = .ok (.value (.agg cells)) w := by
  have e : (ps.toArray.map fun (i, x) => (i, a.eval x)).toList = ps.map fun x => (x.1, a.eval x.2) := by simp
  unfold execOp
  simp only [ho, Sem.run_bind, run_build w t _ cells (by rw [e]; exact hb), Result.andThen_ok]
  rfl
end Go.Proofs.YtcgfnfejacgaeaaDoor
