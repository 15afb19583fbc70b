/- The document's own disk, as the statements bear it: rows that are never written once they are shared. No condition. -/
import Derived.Test.YtfcljcikajaedaaDoorMg28
import Derived.Deep.DeepCutAuto
import Derived.Deep.CutRange
import Derived.Deep.CutBlock
namespace Go.Proofs.YtfcljcikajaedaaDoor
open Go.RowKit Go.Maps

/-- A row, read alone. -/
def RdR (w : World) (t : TypeId) (size : Nat) (v : Value) (n : Nat) (xs : List Value) : Prop :=
  xs.length = n * size ∧ ∃ A cap, v = .slice A n cap ∧ n ≤ cap ∧ (n = 0 ∨ ∃ (b : Nat) (cur : Array Value), A = some ⟨b, 0, none⟩ ∧ Box w b t cur ∧ ∀ (j : Nat) (x : Value), xs[j]? = some x → cur[j]? = some x)
theorem RdR.nil (w : World) (t : TypeId) (size : Nat) : RdR w t size (.slice none 0 0) 0 [] := ⟨by simp, none, 0, rfl, Nat.le_refl _, .inl rfl⟩
theorem RdR.of_own {w : World} {base : Nat} {t : TypeId} {size n : Nat} {v : Value} {xs : List Value} (h : w.ownsRow base t size v n xs) : RdR w t size v n xs := by
  refine ⟨h.1, ?_⟩
  rcases h.2 with ⟨rfl, rfl⟩ | ⟨g, cap, cur, rfl, _, hg, hnc, _, hsz, ht⟩
  · exact ⟨none, 0, rfl, Nat.le_refl _, .inl rfl⟩
  · refine ⟨_, cap, rfl, hnc, .inr ⟨g, cur, rfl, hg, fun j x hx => ?_⟩⟩
    rw [← ht, List.getElem?_take] at hx
    split at hx
    · simpa using hx
    · cases hx
theorem RdR.kp {S : Nat → Prop} {w w' : World} {t : TypeId} {size n : Nat} {v : Value} {xs : List Value} (h : RdR w t size v n xs) (hk : Kp S w w') (hn : ∀ k cs fr, w.heap[k]? = some (.cells cs t fr) → ¬ S k) : RdR w' t size v n xs := by
  obtain ⟨h1, A, cap, hv, hc, h2⟩ := h
  refine ⟨h1, A, cap, hv, hc, ?_⟩
  rcases h2 with h2 | ⟨b, cur, hA, hb, hx⟩
  · exact .inl h2
  · exact .inr ⟨b, cur, hA, hb.kp hk (hn b _ _ hb), hx⟩
/-- The cells of the row, where it has some. -/
theorem RdR.cell {w : World} {t : TypeId} {size n : Nat} {v : Value} {xs : List Value} (h : RdR w t size v n xs) (hn : 0 < n) : ∃ b cap, v = .slice (some ⟨b, 0, none⟩) n cap ∧ n ≤ cap ∧ ∀ j x, xs[j]? = some x → w.cell? ⟨b, j, none⟩ = some x := by
  obtain ⟨_, A, cap, hv, hc, h2⟩ := h
  rcases h2 with h2 | ⟨b, cur, rfl, hb, hx⟩
  · omega
  · exact ⟨b, cap, hv, hc, fun j x hj => by rw [hb.cell]; exact hx j x hj⟩
theorem strs_one (l : List (List UInt8)) : ∀ u ∈ strs l, u.oneCell' = true := fun u hu => by
  obtain ⟨_, _, rfl⟩ := List.mem_map.1 hu
  rfl
/-- Writes that wait, as pairs. -/
def prs (l : List (Nat × List UInt8)) : List Value := l.flatMap fun x => [.int .i64 x.1, .string ⟨x.2.toArray⟩]
theorem prs_length (l : List (Nat × List UInt8)) : (prs l).length = l.length * 2 := by
  induction l with
  | nil => rfl
  | cons x r ih => simp only [prs, List.flatMap_cons, List.length_append, List.length_cons, List.length_nil] at ih ⊢; omega
theorem prs_snoc (l : List (Nat × List UInt8)) (x : Nat × List UInt8) : prs (l ++ [x]) = prs l ++ [.int .i64 x.1, .string ⟨x.2.toArray⟩] := by simp [prs]
theorem prs_get (l : List (Nat × List UInt8)) (k : Nat) (x : Nat × List UInt8) (hk : l[k]? = some x) : (prs l)[k * 2]? = some (.int .i64 x.1) ∧ (prs l)[k * 2 + 1]? = some (.string ⟨x.2.toArray⟩) := by
  induction l generalizing k with
  | nil => simp at hk
  | cons y r ih =>
    cases k with
    | zero => cases hk; exact ⟨rfl, rfl⟩
    | succ k =>
      have := ih k (by simpa using hk)
      have e : prs (y :: r) = .int .i64 y.1 :: .string ⟨y.2.toArray⟩ :: prs r := rfl
      rw [e, show (k + 1) * 2 = k * 2 + 1 + 1 by omega]
      simpa using this
end Go.Proofs.YtfcljcikajaedaaDoor

/- The document's own disk: a write reaches it; the power goes; an act. No condition. -/
namespace Go.Proofs.YtfcljcikajaedaaDoor
open Go.RowKit Go.Maps

theorem strInf : ∃ i, Tryd.prog.info? 9 = some i ∧ i.zero = some (.string ⟨#[]⟩) ∧ i.size = 1 ∧ i.bytes = 16 := by
  have h : (Tryd.prog.info? 9).map (fun i => (i.zero, i.size, i.bytes)) = some (some (.string ⟨#[]⟩), 1, 16) := by kernel_rfl
  obtain ⟨i, h1, h2, h3, h4⟩ := info_parts h
  exact ⟨i, h1, h2, h3, h4⟩
theorem put_row {W w1 : World} {B : Nat} {e : TypeId} {v' : Value} {n : Nat} {xs : List Value} {o : Option Nat} (hn : 0 < n) (h : w1.ownsRow B e 1 v' (0 + n) ([] ++ xs)) (hg : W.grownBy w1 o) (ho : o = none := by rfl) : ∃ g cp, v' = .slice (some ⟨g, 0, none⟩) n cp ∧ w1.ownsRow B e 1 (.slice (some ⟨g, 0, none⟩) n cp) n xs ∧ W.grownBy w1 none := by
  rw [Nat.zero_add, List.nil_append] at h
  subst ho
  rcases h.2 with ⟨_, h0⟩ | ⟨g, cp, cur, hv, _⟩
  · omega
  · subst hv
    exact ⟨g, cp, rfl, h, hg⟩
theorem own_ne {w : World} {B : Nat} {e t : TypeId} {n g k cp : Nat} {xs : List Value} {cs : Array Value} (h : w.ownsRow B e 1 (.slice (some ⟨g, 0, none⟩) n cp) n xs) (hb : Box w k t cs) (hne : e ≠ t) : ¬ g = k := by
  rintro rfl
  obtain ⟨cur, hc⟩ := own_block h rfl
  exact Box.type_ne (t := e) hc hb hne rfl
theorem Kp.of_put {w0 w5 : World} {g : Nat} (b : Nat) (v : Value) (hk : Kp (fun k => k = g) (w0.setCell ⟨b, 0, none⟩ v) w5) : Kp (fun k => k = b ∨ k = g) w0 w5 := ((Kp.one w0 b 0 v).mono fun _ _ e => .inl e).trans (hk.mono fun _ _ e => .inr e)
end Go.Proofs.YtfcljcikajaedaaDoor

/- The document's own disk: a write reaches it, told as a step; the power goes. Conditions: the disk's own. -/
namespace Go.Proofs.YtfcljcikajaedaaDoor
open Go.RowKit Go.Maps

theorem dwp_store_box {P : Program} {op : Oper} {a : Act} {w : World} {K : Act → World → Prop} {Q : Exit → Act → World → Prop} (ty : TypeId) (x y : Operand) (ho : op.op = .store ty x y)
    (g : Nat) (cs : List Value) (hx : a.eval x = .pointer (some ⟨g, 0, none⟩)) (hy : a.eval y = .agg cs.toArray) {t : TypeId} {old : Array Value} (hb : Box w g t old) (hs : old.size = cs.length)
    (hi : (P.info? ty).map (·.size) = some cs.length) (h1 : ∀ v ∈ cs, v.oneCell' = true)
    (h : ∀ W, Box W g t cs.toArray → Kp (fun k => k = g) w W → K (a.put op.dst undef) W) : op.wp P a w K Q := by
  have hb' : Box w g t old.toList.toArray := hb
  refine wp_store_mid ty x y ho g 0 cs.toArray hx hy ?_ (by simpa using hi) (all_oneCell_toArray h1) ?_
  · have := hb'.there
    simp only [List.size_toArray, Array.length_toList] at this ⊢
    rw [← hs]
    exact this
  · refine h _ ?_ (Kp.setCells _ 0 w (Kp.refl _ w) (.inr rfl))
    exact hb'.write (by simpa using hs.symm)
theorem type_off {w : World} {k g : Nat} {t t' : TypeId} {cs cs' : Array Value} {fr : Nat × Nat} (h : w.heap[k]? = some (.cells cs t fr)) (hb : Box w g t' cs') (hne : t ≠ t') : k ≠ g := by
  rintro rfl
  unfold Box at hb
  rw [h] at hb
  injection hb with hb
  injection hb with _ ht
  exact hne ht
end Go.Proofs.YtfcljcikajaedaaDoor
