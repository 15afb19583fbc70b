/- A map of sheets by their numbers: what it reads as, made, put, looked up, ranged over. No condition. -/
import Derived.Test.YtfcljcikajaedaaDoorMg30
import Derived.Test.YtfcljcikajaedaaDoorMg3
import Derived.Maps.RangeWalk
namespace Go.Proofs.YtfcljcikajaedaaDoor
open Go.RowKit Go.Maps

/-- How a sheet reads. -/
def rdSh : Value → Option (DataW Sh × List MemPlace)
  | .agg cs => match cs.toList with
    | [.int .u64 q, .bool b, .string s] => if 0 ≤ q then some (.held ⟨q.toNat, b, s.data.toList⟩, []) else none
    | _ => none
  | _ => none
/-- A sheet as a value. -/
def mkSh (s : Sh) : Value := .agg #[.int .u64 s.q, .bool s.last, .string ⟨s.t.toArray⟩]
theorem rdSh_mk (s : Sh) : rdSh (mkSh s) = some (.held s, []) := by
  simp [rdSh, mkSh]
theorem rdSh_inv {v : Value} {z : DataW Sh × List MemPlace} (h : rdSh v = some z) : ∃ s, v = mkSh s ∧ z = (.held s, []) := by
  unfold rdSh at h
  split at h
  · next cs =>
    split at h
    · next q b s e =>
      split at h
      · next hq =>
        injection h with h
        refine ⟨⟨q.toNat, b, s.data.toList⟩, ?_, h.symm⟩
        have : cs = #[.int .u64 q, .bool b, .string s] := by apply Array.toList_inj.1; exact e
        rw [this, mkSh]
        have e2 : ((q.toNat : Nat) : Int) = q := by omega
        rw [e2]
      · cases h
    · cases h
  · cases h
theorem keyedU : Keyed Tryd.prog 37 := int_keyed Tryd.underlying37
theorem zeroSh (w : World) : (zeroValue 70).run Tryd.prog w = .ok (mkSh ⟨0, false, []⟩) w := by kernel_rfl
theorem wf_u64 (q : Nat) (h : q < 18446744073709551616) : (Lit.int .u64 (q : Int)).wf = true := by
  have hmin : IntKind.u64.min = 0 := rfl
  have hmax : IntKind.u64.max = 18446744073709551615 := rfl
  simp only [Lit.wf, Bool.and_eq_true, decide_eq_true_eq]
  omega
theorem wf_u64' {x : Int} (h : (Lit.int .u64 x).wf = true) : ∃ q : Nat, x = q ∧ q < 18446744073709551616 := by
  have hmin : IntKind.u64.min = 0 := rfl
  have hmax : IntKind.u64.max = 18446744073709551615 := rfl
  simp only [Lit.wf, Bool.and_eq_true, decide_eq_true_eq] at h
  exact ⟨x.toNat, by omega, by omega⟩
/-- What the datum says. -/
def SaysF (D : DataW Sh) (F : Nat → Option Sh) : Prop := ∀ q : Nat, q < 18446744073709551616 → has D (.int .u64 q) = (F q).isSome ∧ ∀ s, F q = some s → ∀ z, D.atKey (.int .u64 q) z = .held s
/-- A map of sheets. -/
def Fm (w : World) (g N : Nat) (F : Nat → Option Sh) : Prop := ∃ n D, w.ownsMap Tryd.prog 37 rdSh g n D ∧ n ≤ N ∧ SaysF D F
section
variable {w : World} {g N : Nat} {F : Nat → Option Sh}
theorem Fm.lt (h : Fm w g N F) : g < w.heap.size := by
  obtain ⟨n, D, ho, _⟩ := h
  exact ho.lt
theorem Fm.kp {S : Nat → Prop} {w' : World} (h : Fm w g N F) (hk : Kp S w w') (hn : ¬ S g) : Fm w' g N F := by
  obtain ⟨n, D, ho, r⟩ := h
  have hlt := ho.lt
  obtain ⟨es, clock, hb, r2⟩ := ho
  exact ⟨n, D, ⟨es, clock, (hk.block g hlt hn).trans hb, r2⟩, r⟩
theorem Fm.made (w : World) : Fm (w.alloc (.map #[] 0)) w.heap.size 0 (fun _ => none) :=
  ⟨0, .map [], World.ownsMap_made w _ _ _, Nat.le_refl _, fun _ _ => ⟨rfl, fun s h => by cases h⟩⟩
/-- m[q] = s. -/
theorem wpList_putSh {ops : Array Oper} {rest : List Oper} {o : Oper} {a : Act} {Q : Exit → Act → World → Prop} (hg : o.guard = none) (m x v : Operand)
    (hop : o.op = Op.mapUpdate 42 m x v) (hm : a.eval m = .map (some g)) (h : Fm w g N F) (hN : N < 1073741824) (s : Sh) (hq : s.q < 18446744073709551616) (hx : a.eval x = .int .u64 s.q) (hv : a.eval v = mkSh s)
    (hK : ∀ w', Fm w' g (N + 1) (fun q => if q = s.q then some s else F q) → Kp (fun k => k = g) w w' → wpList Tryd.prog ops Q rest (a.put o.dst undef) w') :
    wpList Tryd.prog ops Q (o :: rest) a w := by
  obtain ⟨n, D, ho, hn, hD⟩ := h
  refine wpList_mapUpdate_own w hg m x v _ hop 37 70 keyedU Tryd.underlying42 _ g n D hm ho (by simp only [maxLen]; omega) _ _ (.int .u64 s.q) hx hv (keyOf_int_mk Tryd.underlying37 (wf_u64 s.q hq)) _ _ (rdSh_mk s) ?_
  intro w' ho' hgr
  refine hK w' ⟨n + 1, _, ho', by omega, fun q hq2 => ?_⟩ ⟨hgr.os, hgr.tape, hgr.output, hgr.size, fun k hk hs => hgr.block k hk (by simpa using hs)⟩
  have hM := ho.isMap
  dsimp only
  by_cases e : q = s.q
  · subst e
    rw [if_pos rfl]
    refine ⟨has_put_same hM (show WideAt.IsKeyLit (.int .u64 (s.q : Int)) from trivial) _, fun i hi z => ?_⟩
    injection hi with hi
    subst hi
    exact atKey_put_same hM (show WideAt.IsKeyLit (.int .u64 (s.q : Int)) from trivial) _ _
  · rw [if_neg e]
    have hne : (Lit.int .u64 (q : Int)) ≠ .int .u64 (s.q : Int) := by
      intro h
      injection h with _ h
      omega
    rw [has_put_other hne]
    refine ⟨(hD q hq2).1, fun t ht z => ?_⟩
    rw [atKey_put_other hne]
    exact (hD q hq2).2 t ht z
/-- s, ok := m[q]. -/
theorem wpList_lookSh {ops : Array Oper} {rest : List Oper} {o : Oper} {a : Act} {Q : Exit → Act → World → Prop} (hg : o.guard = none) (m x : Operand)
    (hop : o.op = Op.lookup 42 m x true) (hm : a.eval m = .map (some g)) (h : Fm w g N F) (q : Nat) (hq : q < 18446744073709551616) (hx : a.eval x = .int .u64 q)
    (hn : F q = none → ∀ s, wpList Tryd.prog ops Q rest (a.put o.dst (.tuple #[mkSh s, .bool false])) w)
    (hs : ∀ s, F q = some s → wpList Tryd.prog ops Q rest (a.put o.dst (.tuple #[mkSh s, .bool true])) w) :
    wpList Tryd.prog ops Q (o :: rest) a w := by
  obtain ⟨n, D, ho, _, hD⟩ := h
  obtain ⟨h1, h2⟩ := hD q hq
  refine wpList_lookup_own_ok w hg m x _ hop 37 70 keyedU Tryd.underlying42 rdSh (zeroSh w) _ _ (rdSh_mk _) g n D hm ho _ (.int .u64 q) hx (keyOf_int_mk Tryd.underlying37 (wf_u64 q hq)) ?_
  intro v ps hv
  obtain ⟨t, rfl, hz⟩ := rdSh_inv hv
  rw [h1]
  cases hF : F q with
  | none => exact hn hF t
  | some s =>
    have := h2 s hF (.held ⟨0, false, []⟩)
    injection hz with hz _
    rw [this] at hz
    injection hz with hz
    subst hz
    exact hs s hF
/-- What is left of a range, and what was seen, of a greatest number. -/
structure MaxF (F : Nat → Option Sh) (D : DataW Sh) (f m : Nat) (left : Lit → Bool) : Prop where
  sub : ∀ kl, left kl = true → has D kl = true
  lo : f ≤ m
  seen : ∀ q s, q < 18446744073709551616 → F q = some s → left (.int .u64 q) = false → (q + 1) % 18446744073709551616 ≤ m
  is : m = f ∨ ∃ q s, F q = some s ∧ m = (q + 1) % 18446744073709551616
theorem MaxF.start {D : DataW Sh} (h : SaysF D F) (f : Nat) : MaxF F D f f (has D) :=
  ⟨fun _ h => h, Nat.le_refl _, (fun q s hq hs hl => by have := (h q hq).1; rw [hl, hs] at this; cases this), .inl rfl⟩
theorem MaxF.done {D : DataW Sh} {f m : Nat} {left : Lit → Bool} (h : MaxF F D f m left) (hb : ∀ q s, F q = some s → q < 18446744073709551616) (hl : ∀ kl, left kl = false) : IsNext F f m :=
  ⟨h.lo, fun q s hs => h.seen q s (hb q s hs) hs (hl _), h.is⟩
theorem MaxF.step {D : DataW Sh} {f m : Nat} {left : Lit → Bool} (h : MaxF F D f m left) (hD : SaysF D F) (q : Nat) (hq : q < 18446744073709551616) (hk : left (.int .u64 q) = true) :
    MaxF F D f (max m ((q + 1) % 18446744073709551616)) (fun z => left z && !z.sameKey (.int .u64 q)) := by
  refine ⟨fun kl hl => h.sub kl (by simp at hl; exact hl.1), Nat.le_trans h.lo (Nat.le_max_left _ _), fun q2 s hq2 hs hl => ?_, ?_⟩
  · simp only [Bool.and_eq_false_iff, Bool.not_eq_false'] at hl
    rcases hl with hl | hl
    · exact Nat.le_trans (h.seen q2 s hq2 hs hl) (Nat.le_max_left _ _)
    · have := WideAt.sameKey_eq hl
      injection this with _ this
      have e : q2 = q := by omega
      rw [e]
      exact Nat.le_max_right _ _
  · rcases Nat.le_total m ((q + 1) % 18446744073709551616) with hm | hm
    · right
      have h1 := (hD q hq).1
      rw [h.sub _ hk] at h1
      cases hF : F q with
      | none => rw [hF] at h1; cases h1
      | some s => exact ⟨q, s, hF, Nat.max_eq_right hm⟩
    · rw [Nat.max_eq_left hm]
      exact h.is
end
/-- The sheets that were found in the first k places. -/
def foundK (V : Nat → List UInt8) (n k q : Nat) : Option Sh := if q % n < k then sheetF V n q else none
theorem foundK_zero (V : Nat → List UInt8) (n : Nat) : foundK V n 0 = fun _ => none := by funext q; simp [foundK]
theorem foundK_all (V : Nat → List UInt8) (n : Nat) (hn : 0 < n) : foundK V n n = sheetF V n := by funext q; simp [foundK, Nat.mod_lt q hn]
theorem foundK_none {V : Nat → List UInt8} {n k : Nat} (h : takeS (V (2 + k)) = none) : foundK V n (k + 1) = foundK V n k := by
  funext q
  unfold foundK
  by_cases h1 : q % n < k
  · rw [if_pos h1, if_pos (by omega)]
  · rw [if_neg h1]
    by_cases h2 : q % n = k
    · rw [if_pos (by omega)]; unfold sheetF; rw [h2, h]
    · rw [if_neg (by omega)]
theorem foundK_far {V : Nat → List UInt8} {n k : Nat} {s : Sh} (h : takeS (V (2 + k)) = some s) (hs : s.q % n ≠ k) : foundK V n (k + 1) = foundK V n k := by
  funext q
  unfold foundK
  by_cases h1 : q % n < k
  · rw [if_pos h1, if_pos (by omega)]
  · rw [if_neg h1]
    by_cases h2 : q % n = k
    · rw [if_pos (by omega)]
      unfold sheetF
      rw [h2, h]
      dsimp only
      rw [if_neg (fun e => hs (by rw [e]; exact h2))]
    · rw [if_neg (by omega)]
theorem foundK_put {V : Nat → List UInt8} {n k : Nat} {s : Sh} (h : takeS (V (2 + k)) = some s) (hs : s.q % n = k) : foundK V n (k + 1) = fun q => if q = s.q then some s else foundK V n k q := by
  funext q
  unfold foundK
  by_cases e : q = s.q
  · subst e
    rw [if_pos rfl, if_pos (by omega)]
    unfold sheetF
    rw [hs, h]
    simp
  · rw [if_neg e]
    by_cases h1 : q % n < k
    · rw [if_pos h1, if_pos (by omega)]
    · rw [if_neg h1]
      by_cases h2 : q % n = k
      · rw [if_pos (by omega)]
        unfold sheetF
        rw [h2, h]
        dsimp only
        rw [if_neg (fun e2 => e e2.symm)]
      · rw [if_neg (by omega)]
end Go.Proofs.YtfcljcikajaedaaDoor
