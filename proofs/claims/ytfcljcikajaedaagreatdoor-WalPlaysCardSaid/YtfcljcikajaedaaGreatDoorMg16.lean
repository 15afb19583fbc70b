/- A map of sheets by their numbers: what it reads as, made, put, looked up, ranged over. No condition. -/
import Derived.Test.YtfcljcikajaedaaGreatDoorMg15
import Derived.Test.YtfcljcikajaedaaGreatDoorMg4
import Derived.Maps.RangeWalk
namespace Go.Proofs.YtfcljcikajaedaaGreatDoor
open Go.RowKit Go.Maps

/-- How a sheet reads. -/
def rdSh : Value → Option (DataW Sh × List MemPlace)
  | .agg cs => match cs.toList with
    | [.int .u64 q, .bool b, .string s] => if 0 ≤ q then some (.held ⟨q.toNat, b, s.data.toList⟩, []) else none
    | _ => none
  | _ => none
/-- A sheet as a value. -/
def mkSh (s : Sh) : Value := .agg #[.int .u64 s.q, .bool s.last, .string ⟨s.t.toArray⟩]
theorem rdSh_mk (s : Sh) : rdSh (mkSh s) = some (.held s, []) := by
  simp [rdSh, mkSh]
theorem rdSh_inv {v : Value} {z : DataW Sh × List MemPlace} (h : rdSh v = some z) : ∃ s, v = mkSh s ∧ z = (.held s, []) := by
  unfold rdSh at h
  split at h
  · next cs =>
    split at h
    · next q b s e =>
      split at h
      · next hq =>
        injection h with h
        refine ⟨⟨q.toNat, b, s.data.toList⟩, ?_, h.symm⟩
        have : cs = #[.int .u64 q, .bool b, .string s] := by apply Array.toList_inj.1; exact e
        rw [this, mkSh]
        have e2 : ((q.toNat : Nat) : Int) = q := by omega
        rw [e2]
      · cases h
    · cases h
  · cases h
theorem keyedU : Keyed Tryz.prog 35 := int_keyed Tryz.underlying35
theorem zeroSh (w : World) : (zeroValue 120).run Tryz.prog w = .ok (mkSh ⟨0, false, []⟩) w := by kernel_rfl
theorem wf_u64 (q : Nat) (h : q < 18446744073709551616) : (Lit.int .u64 (q : Int)).wf = true := by
  have hmin : IntKind.u64.min = 0 := rfl
  have hmax : IntKind.u64.max = 18446744073709551615 := rfl
  simp only [Lit.wf, Bool.and_eq_true, decide_eq_true_eq]
  omega
theorem wf_u64' {x : Int} (h : (Lit.int .u64 x).wf = true) : ∃ q : Nat, x = q ∧ q < 18446744073709551616 := by
  have hmin : IntKind.u64.min = 0 := rfl
  have hmax : IntKind.u64.max = 18446744073709551615 := rfl
  simp only [Lit.wf, Bool.and_eq_true, decide_eq_true_eq] at h
  exact ⟨x.toNat, by omega, by omega⟩
/-- What the datum says. -/
def SaysF (D : DataW Sh) (F : Nat → Option Sh) : Prop := ∀ q : Nat, q < 18446744073709551616 → has D (.int .u64 q) = (F q).isSome ∧ ∀ s, F q = some s → ∀ z, D.atKey (.int .u64 q) z = .held s
/-- A map of sheets. -/
def Fm (w : World) (g N : Nat) (F : Nat → Option Sh) : Prop := ∃ n D, w.ownsMap Tryz.prog 35 rdSh g n D ∧ n ≤ N ∧ SaysF D F
section
variable {w : World} {g N : Nat} {F : Nat → Option Sh}
theorem Fm.lt (h : Fm w g N F) : g < w.heap.size := by
  obtain ⟨n, D, ho, _⟩ := h
  exact ho.lt
theorem Fm.kp {S : Nat → Prop} {w' : World} (h : Fm w g N F) (hk : Kp S w w') (hn : ¬ S g) : Fm w' g N F := by
  obtain ⟨n, D, ho, r⟩ := h
  have hlt := ho.lt
  obtain ⟨es, clock, hb, r2⟩ := ho
  exact ⟨n, D, ⟨es, clock, (hk.block g hlt hn).trans hb, r2⟩, r⟩
theorem Fm.made (w : World) : Fm (w.alloc (.map #[] 0)) w.heap.size 0 (fun _ => none) :=
  ⟨0, .map [], World.ownsMap_made w _ _ _, Nat.le_refl _, fun _ _ => ⟨rfl, fun s h => by cases h⟩⟩
/-- m[q] = s. -/
theorem wpList_putSh {ops : Array Oper} {rest : List Oper} {o : Oper} {a : Act} {Q : Exit → Act → World → Prop} (hg : o.guard = none) (m x v : Operand)
    (hop : o.op = Op.mapUpdate 87 m x v) (hm : a.eval m = .map (some g)) (h : Fm w g N F) (hN : N < 1073741824) (s : Sh) (hq : s.q < 18446744073709551616) (hx : a.eval x = .int .u64 s.q) (hv : a.eval v = mkSh s)
    (hK : ∀ w', Fm w' g (N + 1) (fun q => if q = s.q then some s else F q) → Kp (fun k => k = g) w w' → wpList Tryz.prog ops Q rest (a.put o.dst undef) w') :
    wpList Tryz.prog ops Q (o :: rest) a w := by
  obtain ⟨n, D, ho, hn, hD⟩ := h
  refine wpList_mapUpdate_own w hg m x v _ hop 35 120 keyedU Tryz.underlying87 _ g n D hm ho (by simp only [maxLen]; omega) _ _ (.int .u64 s.q) hx hv (keyOf_int_mk Tryz.underlying35 (wf_u64 s.q hq)) _ _ (rdSh_mk s) ?_
  intro w' ho' hgr
  refine hK w' ⟨n + 1, _, ho', by omega, fun q hq2 => ?_⟩ ⟨hgr.os, hgr.tape, hgr.output, hgr.size, fun k hk hs => hgr.block k hk (by simpa using hs)⟩
  have hM := ho.isMap
  dsimp only
  by_cases e : q = s.q
  · subst e
    rw [if_pos rfl]
    refine ⟨has_put_same hM (show WideAt.IsKeyLit (.int .u64 (s.q : Int)) from trivial) _, fun i hi z => ?_⟩
    injection hi with hi
    subst hi
    exact atKey_put_same hM (show WideAt.IsKeyLit (.int .u64 (s.q : Int)) from trivial) _ _
  · rw [if_neg e]
    have hne : (Lit.int .u64 (q : Int)) ≠ .int .u64 (s.q : Int) := by
      intro h
      injection h with _ h
      omega
    rw [has_put_other hne]
    refine ⟨(hD q hq2).1, fun t ht z => ?_⟩
    rw [atKey_put_other hne]
    exact (hD q hq2).2 t ht z
/-- s, ok := m[q]. -/
theorem wpList_lookSh {ops : Array Oper} {rest : List Oper} {o : Oper} {a : Act} {Q : Exit → Act → World → Prop} (hg : o.guard = none) (m x : Operand)
    (hop : o.op = Op.lookup 87 m x true) (hm : a.eval m = .map (some g)) (h : Fm w g N F) (q : Nat) (hq : q < 18446744073709551616) (hx : a.eval x = .int .u64 q)
    (hn : F q = none → ∀ s, wpList Tryz.prog ops Q rest (a.put o.dst (.tuple #[mkSh s, .bool false])) w)
    (hs : ∀ s, F q = some s → wpList Tryz.prog ops Q rest (a.put o.dst (.tuple #[mkSh s, .bool true])) w) :
    wpList Tryz.prog ops Q (o :: rest) a w := by
  obtain ⟨n, D, ho, _, hD⟩ := h
  obtain ⟨h1, h2⟩ := hD q hq
  refine wpList_lookup_own_ok w hg m x _ hop 35 120 keyedU Tryz.underlying87 rdSh (zeroSh w) _ _ (rdSh_mk _) g n D hm ho _ (.int .u64 q) hx (keyOf_int_mk Tryz.underlying35 (wf_u64 q hq)) ?_
  intro v ps hv
  obtain ⟨t, rfl, hz⟩ := rdSh_inv hv
  rw [h1]
  cases hF : F q with
  | none => exact hn hF t
  | some s =>
    have := h2 s hF (.held ⟨0, false, []⟩)
    injection hz with hz _
    rw [this] at hz
    injection hz with hz
    subst hz
    exact hs s hF
/-- What is left of a range, and what was seen, of a greatest number. -/
structure MaxF (F : Nat → Option Sh) (D : DataW Sh) (f m : Nat) (left : Lit → Bool) : Prop where
  sub : ∀ kl, left kl = true → has D kl = true
  lo : f ≤ m
  seen : ∀ q s, q < 18446744073709551616 → F q = some s → left (.int .u64 q) = false → (q + 1) % 18446744073709551616 ≤ m
  is : m = f ∨ ∃ q s, F q = some s ∧ m = (q + 1) % 18446744073709551616
theorem MaxF.start {D : DataW Sh} (h : SaysF D F) (f : Nat) : MaxF F D f f (has D) :=
  ⟨fun _ h => h, Nat.le_refl _, (fun q s hq hs hl => by have := (h q hq).1; rw [hl, hs] at this; cases this), .inl rfl⟩
theorem MaxF.done {D : DataW Sh} {f m : Nat} {left : Lit → Bool} (h : MaxF F D f m left) (hb : ∀ q s, F q = some s → q < 18446744073709551616) (hl : ∀ kl, left kl = false) : IsNext F f m :=
  ⟨h.lo, fun q s hs => h.seen q s (hb q s hs) hs (hl _), h.is⟩
theorem MaxF.step {D : DataW Sh} {f m : Nat} {left : Lit → Bool} (h : MaxF F D f m left) (hD : SaysF D F) (q : Nat) (hq : q < 18446744073709551616) (hk : left (.int .u64 q) = true) :
    MaxF F D f (max m ((q + 1) % 18446744073709551616)) (fun z => left z && !z.sameKey (.int .u64 q)) := by
  refine ⟨fun kl hl => h.sub kl (by simp at hl; exact hl.1), Nat.le_trans h.lo (Nat.le_max_left _ _), fun q2 s hq2 hs hl => ?_, ?_⟩
  · simp only [Bool.and_eq_false_iff, Bool.not_eq_false'] at hl
    rcases hl with hl | hl
    · exact Nat.le_trans (h.seen q2 s hq2 hs hl) (Nat.le_max_left _ _)
    · have := WideAt.sameKey_eq hl
      injection this with _ this
      have e : q2 = q := by omega
      rw [e]
      exact Nat.le_max_right _ _
  · rcases Nat.le_total m ((q + 1) % 18446744073709551616) with hm | hm
    · right
      have h1 := (hD q hq).1
      rw [h.sub _ hk] at h1
      cases hF : F q with
      | none => rw [hF] at h1; cases h1
      | some s => exact ⟨q, s, hF, Nat.max_eq_right hm⟩
    · rw [Nat.max_eq_left hm]
      exact h.is
end
/-- The sheets that were found in the first k places. -/
def foundK (V : Nat → List UInt8) (n k q : Nat) : Option Sh := if q % n < k then sheetF V n q else none
theorem foundK_zero (V : Nat → List UInt8) (n : Nat) : foundK V n 0 = fun _ => none := by funext q; simp [foundK]
theorem foundK_all (V : Nat → List UInt8) (n : Nat) (hn : 0 < n) : foundK V n n = sheetF V n := by funext q; simp [foundK, Nat.mod_lt q hn]
theorem foundK_none {V : Nat → List UInt8} {n k : Nat} (h : takeS (V (2 + k)) = none) : foundK V n (k + 1) = foundK V n k := by
  funext q
  unfold foundK
  by_cases h1 : q % n < k
  · rw [if_pos h1, if_pos (by omega)]
  · rw [if_neg h1]
    by_cases h2 : q % n = k
    · rw [if_pos (by omega)]; unfold sheetF; rw [h2, h]
    · rw [if_neg (by omega)]
theorem foundK_far {V : Nat → List UInt8} {n k : Nat} {s : Sh} (h : takeS (V (2 + k)) = some s) (hs : s.q % n ≠ k) : foundK V n (k + 1) = foundK V n k := by
  funext q
  unfold foundK
  by_cases h1 : q % n < k
  · rw [if_pos h1, if_pos (by omega)]
  · rw [if_neg h1]
    by_cases h2 : q % n = k
    · rw [if_pos (by omega)]
      unfold sheetF
      rw [h2, h]
      dsimp only
      rw [if_neg (fun e => hs (by rw [e]; exact h2))]
    · rw [if_neg (by omega)]
theorem foundK_put {V : Nat → List UInt8} {n k : Nat} {s : Sh} (h : takeS (V (2 + k)) = some s) (hs : s.q % n = k) : foundK V n (k + 1) = fun q => if q = s.q then some s else foundK V n k q := by
  funext q
  unfold foundK
  by_cases e : q = s.q
  · subst e
    rw [if_pos rfl, if_pos (by omega)]
    unfold sheetF
    rw [hs, h]
    simp
  · rw [if_neg e]
    by_cases h1 : q % n < k
    · rw [if_pos h1, if_pos (by omega)]
    · rw [if_neg h1]
      by_cases h2 : q % n = k
      · rw [if_pos (by omega)]
        unfold sheetF
        rw [h2, h]
        dsimp only
        rw [if_neg (fun e2 => e e2.symm)]
      · rw [if_neg (by omega)]
end Go.Proofs.YtfcljcikajaedaaGreatDoor

/- wal: whether a number of sectors, a note may be; a sheet's place; the head that follows; what a log says ahead of all else. Conditions: a head that may be. -/
namespace Go.Proofs.YtfcljcikajaedaaGreatDoor
open Go.RowKit

/-- A head as a value, and as cells. -/
def hcs (h : Hd) (a : Nat) : List Value := [.int .u64 h.g, .int .u64 h.f, .int .i64 h.n, .string ⟨h.note.toArray⟩, .int .i64 a]
theorem hcs_one (h : Hd) (a : Nat) : ∀ v ∈ hcs h a, v.oneCell' = true := by
  intro v hv
  simp only [hcs, List.mem_cons, List.not_mem_nil, or_false] at hv
  rcases hv with rfl | rfl | rfl | rfl | rfl <;> rfl
theorem info_head : (Tryz.prog.info? 84).map (·.size) = some 5 := by kernel_rfl
theorem note_size (l : List UInt8) : (⟨l.toArray⟩ : ByteArray).size = l.length := by show l.toArray.size = l.length; simp
theorem wrap_next (n : Nat) : IntKind.u64.wrap ((n : Int) + 1) = (((n + 1) % 18446744073709551616 : Nat) : Int) := by
  simp [IntKind.wrap, IntKind.bits, IntKind.signed]
def secsB (n : Int) : Bool := decide (96 ≤ n) && decide (n ≤ 512)
def noteB (l : List UInt8) : Bool := decide (l.length ≤ 64)
set_option maxHeartbeats 400000 in
theorem maySectors_any (n : Int) (w : World) :
    Calls Tryz.prog 34 #[.int .i64 n] w fun e w' => e = .returned (.bool (secsB n)) ∧ w = w' := by
  have e : secsB n = (decide (96 ≤ n) && decide (n ≤ 512)) := rfl
  by_cases h1 : 96 ≤ n
  · by_cases h2 : n ≤ 512
    · have h3 : ¬ 512 < n := by omega
      rw [show secsB n = true by rw [e]; simp [h1, h2]]
      clear e
      go_enter Tryz.func34, Tryz.ntmps34
      go_wp2_with fail
      go_ret
      exact ⟨rfl, rfl⟩
    · have h3 : 512 < n := by omega
      rw [show secsB n = false by rw [e]; simp [h2]]
      clear e
      go_enter Tryz.func34, Tryz.ntmps34
      go_wp2_with fail
      go_ret
      exact ⟨rfl, rfl⟩
  · have h3 : n < 96 := by omega
    rw [show secsB n = false by rw [e]; simp [h1]]
    clear e
    go_enter Tryz.func34, Tryz.ntmps34
    go_wp2_with fail
    go_ret
    exact ⟨rfl, rfl⟩
set_option maxHeartbeats 400000 in
theorem mayNote_any (l : List UInt8) (w : World) :
    Calls Tryz.prog 36 #[.string ⟨l.toArray⟩] w fun e w' => e = .returned (.bool (noteB l)) ∧ w = w' := by
  have hs := note_size l
  by_cases h1 : l.length ≤ 64
  · have hd : decide ((l.length : Int) ≤ 64) = true := by simp; omega
    rw [show noteB l = true by simp [noteB, h1]]
    clear hs
    go_enter Tryz.func36, Tryz.ntmps36
    go_wp2_with fail
    go_ret
    exact ⟨rfl, rfl⟩
  · have hd : decide ((l.length : Int) ≤ 64) = false := by simp; omega
    rw [show noteB l = false by simp [noteB, h1]]
    clear hs
    go_enter Tryz.func36, Tryz.ntmps36
    go_wp2_with fail
    go_ret
    exact ⟨rfl, rfl⟩
set_option maxHeartbeats 400000 in
theorem place_any (q n : Nat) (w : World) (_hq : q < 18446744073709551616) (h0 : 0 < n) (hn : n ≤ 512) :
    Calls Tryz.prog 67 #[.int .u64 q, .int .i64 n] w fun e w' => e = .returned (.int .i64 ((2 + q % n : Nat) : Int)) ∧ w = w' := by
  have hm := Nat.mod_lt q h0
  have hw : IntKind.u64.wrap (n : Int) = (n : Int) := IntWalk.u64_in _ (by omega)
  clear _hq
  go_enter Tryz.func67, Tryz.ntmps67
  go_wp2_with fail
  go_ret
  refine ⟨?_, rfl⟩
  rw [Int.natCast_add, Int.natCast_emod]
  rfl
set_option maxHeartbeats 1000000 in
theorem follow_any (h : Hd) (a f : Nat) (w : World) (ha : a ≤ 1) :
    Calls Tryz.prog 39 #[.agg (hcs h a).toArray, .int .u64 f] w fun e w' => e = .returned (.agg (hcs ⟨(h.g + 1) % 18446744073709551616, f, h.n, h.note⟩ (1 - a)).toArray) ∧ Kp (fun _ => False) w w' := by
  obtain ⟨Hr⟩ : Nonempty (Hid (Tryz.f39.results = #[.cell 4 84])) := ⟨Lib.hid rfl⟩
  simp only [hcs]
  go_enter Tryz.func39, Tryz.ntmps39
  go_wp2_with fail
  have e1 : IntKind.u64.wrap ((h.g : Int) + 1) = (((h.g + 1) % 18446744073709551616 : Nat) : Int) := wrap_next h.g
  have e2 : ((1 - a : Nat) : Int) = 1 - (a : Int) := by omega
  rw [e2, ← e1]
  refine bodyPost_ret (v := .agg #[.int .u64 (IntKind.u64.wrap ((h.g : Int) + 1)), .int .u64 f, .int .i64 h.n, .string ⟨h.note.toArray⟩, .int .i64 (1 - (a : Int))]) ?_ rfl ⟨rfl, ((Kp.refl _ w).alloc _).alloc _⟩
  have hb := Box.new (w.alloc (.cells #[.int .u64 (IntKind.u64.wrap ((h.g : Int) + 1)), .int .u64 f, .int .i64 h.n, .string ⟨h.note.toArray⟩, .int .i64 (1 - (a : Int))] 84)) 84 #[.int .u64 (IntKind.u64.wrap ((h.g : Int) + 1)), .int .u64 f, .int .i64 h.n, .string ⟨h.note.toArray⟩, .int .i64 (1 - (a : Int))]
  rw [World.size_alloc] at hb
  exact results_cell_row Hr.out _ _ (w.heap.size + 1) 84 _ (0, 0) _ rfl hb Tryz.underlying84 rfl info_head
/-- A log in memory. -/
def lcs (b : Nat) (l : Lm) : Array Value := #[.pointer (some ⟨b, 0, none⟩), .int .u64 l.h.g, .int .u64 l.h.f, .int .i64 l.h.n, .string ⟨l.h.note.toArray⟩, .int .i64 l.a, .int .u64 l.next, .int .i64 l.left, .bool l.dead]
set_option maxHeartbeats 400000 in
theorem ready_nil (w : World) :
    Calls Tryz.prog 43 #[.pointer none] w fun e w' => e = .returned (.int .i64 1) ∧ w = w' := by
  go_enter Tryz.func43, Tryz.ntmps43
  go_wp2_with fail
  go_ret
  exact ⟨rfl, rfl⟩
set_option maxHeartbeats 400000 in
theorem ready_any (g b : Nat) (l : Lm) (w : World) (h : Box w g 93 (lcs b l)) :
    Calls Tryz.prog 43 #[.pointer (some ⟨g, 0, none⟩)] w fun e w' => e = .returned (.int .i64 (if l.dead then 4 else 0)) ∧ w = w' := by
  have h8 := h.cell 8
  simp only [lcs] at h8
  clear h
  obtain ⟨dd, hdd⟩ : ∃ dd, l.dead = dd := ⟨_, rfl⟩
  rw [hdd] at h8 ⊢
  clear hdd
  rcases dd with _ | _
  all_goals
    simp at h8
    go_enter Tryz.func43, Tryz.ntmps43
    go_wp2_with fail
    go_ret
    exact ⟨rfl, rfl⟩
set_option maxHeartbeats 400000 in
theorem hear_any (g b : Nat) (l : Lm) (e0 : Int) (w : World) (h : Box w g 93 (lcs b l)) :
    Calls Tryz.prog 44 #[.pointer (some ⟨g, 0, none⟩), .int .i64 e0] w fun e w' => e = .returned (.int .i64 e0) ∧ Box w' g 93 (lcs b { l with dead := l.dead || e0 == 4 }) ∧ Kp (fun k => k = g) w w' := by
  have h8 := h.cell 8
  have f8 := h.free 8
  have hp := fun u => h.put 8 u
  simp only [lcs] at h8 hp
  obtain ⟨dd, hdd⟩ : ∃ dd, l.dead = dd := ⟨_, rfl⟩
  rw [hdd] at h8 hp
  obtain ⟨ee, hee⟩ : ∃ ee, (e0 == 4) = ee := ⟨_, rfl⟩
  have HP := Lib.hid hp
  have HD := Lib.hid hdd
  have HE := Lib.hid hee
  clear h hp hdd
  rcases dd with _ | _
  all_goals
    simp at h8
    go_enter Tryz.func44, Tryz.ntmps44
    go_wp2_with fail
    go_ret
    refine ⟨rfl, ?_, Kp.one _ _ _ _⟩
    simp only [lcs, HD.out, HE.out]
    exact HP.out _
end Go.Proofs.YtfcljcikajaedaaGreatDoor
