/- The acts of the laws of layer 4: how they lie in memory, and whether they are more, or greater, than a law looks at. No condition. -/
import Derived.Test.YtfcljcikajaedaaGreatDoorMg10
namespace Go.Proofs.YtfcljcikajaedaaGreatDoor
open Go.RowKit Go.Maps

/-- An act. -/
structure Ac where
  d : Int
  n : Int
  keep : List UInt8
  c : UInt8
  short : Bool
structure Ac.Ok (x : Ac) : Prop where
  d0 : 0 ≤ x.d
  d1 : x.d < 256
  n0 : -9223372036854775808 ≤ x.n
  n1 : x.n ≤ 9223372036854775807
  k1 : x.keep.length ≤ maxLen
def Ac.cells (x : Ac) : Array Value := #[.int .u8 x.d, .int .i64 x.n, .string ⟨x.keep.toArray⟩, .int .u8 x.c.toNat, .bool x.short]
/-- A slice at A reads as these acts, in blocks below B. -/
def Acs (w : World) (B : Nat) (A : Option Addr) (l : List Ac) : Prop :=
  (∀ x ∈ l, x.Ok) ∧ (l = [] ∨ ∃ b o, A = some ⟨b, o, none⟩ ∧ b < B ∧ ∀ i x, l[i]? = some x → ∀ j v, x.cells[j]? = some v → w.cell? ⟨b, o + i * 5 + j, none⟩ = some v)
theorem Acs.keep {w w' : World} {B : Nat} {A : Option Addr} {l : List Ac} (h : Acs w B A l) (hk : ∀ k, k < B → w'.heap[k]? = w.heap[k]?) : Acs w' B A l := by
  refine ⟨h.1, ?_⟩
  rcases h.2 with h0 | ⟨b, o, rfl, hb, hc⟩
  · exact .inl h0
  · exact .inr ⟨b, o, rfl, hb, fun i x hx j v hv => (World.cell?_of_block (hk b hb)).trans (hc i x hx j v hv)⟩
/-- More than 80 acts, or a text of more than 40 bytes. -/
def greatA (l : List Ac) : Bool := decide (80 < l.length) || l.any fun x => decide (40 < x.keep.length)
theorem not_great {l : List Ac} (h : greatA l = false) : l.length ≤ 80 ∧ ∀ x ∈ l, x.keep.length ≤ 40 := by
  simp [greatA] at h
  exact ⟨h.1, fun x hx => h.2 x hx⟩
theorem dtake_snoc {α : Type} (l : List α) (k : Nat) (h : k < l.length) : l.take (k + 1) = l.take k ++ [l[k]] := by
  rw [List.take_succ_eq_append_getElem h]
section
variable {B : Nat} {A : Option Addr} {l : List Ac} {w : World}

end
end Go.Proofs.YtfcljcikajaedaaGreatDoor

/- What was flushed stays: what holds of a disk, of what its sectors are now, and of what they may be, act by act. No condition. -/
namespace Go.Proofs.YtfcljcikajaedaaGreatDoor
open Go.RowKit Go.Maps

theorem getD_set_same {α : Type} (l : List α) (k : Nat) (x y : α) (h : k < l.length) : (l.set k x).getD k y = x := by
  simp [List.getD, h]
theorem getD_set_other {α : Type} (l : List α) (k j : Nat) (x y : α) (h : k ≠ j) : (l.set k x).getD j y = l.getD j y := by
  simp [List.getD, h]
theorem getD_snoc {α : Type} (l : List α) (x y : α) (i : Nat) (h : i < l.length) : (l ++ [x]).getD i y = l.getD i y := by
  simp [List.getD, List.getElem?_append_left h]
theorem getD_end {α : Type} (l : List α) (x y : α) : (l ++ [x]).getD l.length y = x := by simp [List.getD]
theorem lastOf_lt (l : List (Nat × List UInt8)) (k i : Nat) (h : lastOf l k = some i) : i < l.length := by
  obtain ⟨b, hb⟩ := lastOf_get l k i h
  exact (List.getElem?_eq_some_iff.1 hb).1
/-- What a row of writes leaves in a sector. -/
def lastB (on : List (List UInt8)) (l : List (Nat × List UInt8)) (k : Nat) : List UInt8 := match lastOf l k with | some i => (l.getD i (0, [])).2 | none => on.getD k []
theorem lastB_snoc (on : List (List UInt8)) (l : List (Nat × List UInt8)) (x : Nat × List UInt8) (k : Nat) : lastB on (l ++ [x]) k = if x.1 = k then x.2 else lastB on l k := by
  unfold lastB
  rw [lastOf_snoc]
  by_cases e : x.1 = k
  · rw [if_pos e, if_pos e]
    dsimp only
    rw [getD_end]
  · rw [if_neg e, if_neg e]
    cases hl : lastOf l k with
    | none => rfl
    | some i =>
      dsimp only
      rw [getD_snoc _ _ _ _ (lastOf_lt l k i hl)]
theorem nowAt_eq (d : Dm) (k : Nat) : d.nowAt k = lastB d.on d.wait k := rfl
/-- All reach the disk: each sector is what the last one said. -/
theorem settle_all_get (on : List (List UInt8)) (l : List (Nat × List UInt8)) (hl : ∀ x ∈ l, x.1 < on.length) (k : Nat) (hk : k < on.length) : (settleL (fun _ => true) on l).getD k [] = lastB on l k := by
  induction l using snoc_ind with
  | h0 => rfl
  | h1 l x ih =>
    have ih' := ih fun y hy => hl y (by simp [hy])
    have hx := hl x (by simp)
    rw [settleL_snoc, if_pos rfl, lastB_snoc]
    by_cases e : x.1 = k
    · subst e
      rw [if_pos rfl, getD_set_same _ _ _ _ (by rw [settleL_length]; exact hx)]
    · rw [if_neg e, getD_set_other _ _ _ _ _ e, ih']
/-- Some reach the disk: each sector is what it was, or what one of them said. -/
theorem settle_mem (f : Nat → Bool) (on : List (List UInt8)) (l : List (Nat × List UInt8)) (hl : ∀ x ∈ l, x.1 < on.length) (k : Nat) :
    (settleL f on l).getD k [] = on.getD k [] ∨ ∃ x ∈ l, x.1 = k ∧ (settleL f on l).getD k [] = x.2 := by
  induction l using snoc_ind with
  | h0 => exact .inl rfl
  | h1 l x ih =>
    have ih' := ih fun y hy => hl y (by simp [hy])
    have hx := hl x (by simp)
    have old : (settleL f on l).getD k [] = on.getD k [] ∨ ∃ y ∈ l ++ [x], y.1 = k ∧ (settleL f on l).getD k [] = y.2 := by
      rcases ih' with h | ⟨y, hy, h1, h2⟩
      · exact .inl h
      · exact .inr ⟨y, by simp [hy], h1, h2⟩
    rw [settleL_snoc]
    split
    · by_cases e : x.1 = k
      · right
        exact ⟨x, by simp, e, by rw [← e, getD_set_same _ _ _ _ (by rw [settleL_length]; exact hx)]⟩
      · rw [getD_set_other _ _ _ _ _ e]
        exact old
    · exact old

/-- What may be. -/
structure KI (d : Dm) (now : List (List UInt8)) (may : List (List (List UInt8))) : Prop where
  nlen : now.length = d.on.length
  mlen : may.length = d.on.length
  onMay : ∀ k, k < d.on.length → d.on.getD k [] ∈ may.getD k []
  waitMay : ∀ x ∈ d.wait, x.2 ∈ may.getD x.1 []
  off : d.power = false → d.wait = []
/-- What is now. -/
def KN (d : Dm) (now : List (List UInt8)) : Prop := ∀ k, k < d.on.length → d.nowAt k = now.getD k []

section
variable {d : Dm} {now : List (List UInt8)} {may : List (List (List UInt8))}
theorem KI.lose (ok : d.ok) (h : KI d now may) (l : List UInt8) : KI (d.lose l) now may := by
  have hlen : (d.lose l).on.length = d.on.length := by simp [Dm.lose, settleL_length]
  refine ⟨by rw [hlen]; exact h.nlen, by rw [hlen]; exact h.mlen, fun k hk => ?_, fun x hx => by simp [Dm.lose] at hx, fun _ => rfl⟩
  rw [hlen] at hk
  show (settleL (bitOf l) d.on d.wait).getD k [] ∈ _
  rcases settle_mem (bitOf l) d.on d.wait ok.at_ k with e | ⟨x, hx, e1, e2⟩
  · rw [e]; exact h.onMay k hk
  · rw [e2, ← e1]; exact h.waitMay x hx
theorem KI.flush (ok : d.ok) (h : KI d now may) (hn : KN d now) : KI d.act.all now (now.map fun s => [s]) ∧ KN d.act.all now := by
  have hlen : d.act.all.on.length = d.on.length := by simp [Dm.all, Dm.act, settleL_length]
  have hon : ∀ k, k < d.on.length → d.act.all.on.getD k [] = now.getD k [] := fun k hk => by
    show (settleL (fun _ => true) d.on d.wait).getD k [] = _
    rw [settle_all_get _ _ ok.at_ k hk, ← nowAt_eq]
    exact hn k hk
  refine ⟨⟨by rw [hlen]; exact h.nlen, by rw [hlen]; simpa using h.nlen, fun k hk => ?_, fun x hx => by simp [Dm.all] at hx, fun _ => rfl⟩, fun k hk => ?_⟩
  · rw [hlen] at hk
    rw [hon k hk]
    have hk2 : k < now.length := by rw [h.nlen]; exact hk
    simp [List.getD, hk2]
  · rw [hlen] at hk
    rw [nowAt_eq]
    exact hon k hk
theorem KI.push (h : KI d now may) (hn : KN d now) (a : Nat) (l : List UInt8) (ha : a < d.on.length) (hp : d.power = true) :
    KI (d.act.push a l) (now.set a l) (may.set a (may.getD a [] ++ [l])) ∧ KN (d.act.push a l) (now.set a l) := by
  refine ⟨⟨by simpa [Dm.push, Dm.act] using h.nlen, by simpa [Dm.push, Dm.act] using h.mlen, fun k hk => ?_, fun x hx => ?_, fun hq => ?_⟩, fun k hk => ?_⟩
  · have h1 := h.onMay k hk
    by_cases e : a = k
    · subst e
      rw [getD_set_same _ _ _ _ (by rw [h.mlen]; exact ha)]
      exact List.mem_append_left _ h1
    · rw [getD_set_other _ _ _ _ _ e]; exact h1
  · have hx' : x ∈ d.wait ++ [(a, l)] := hx
    rcases List.mem_append.1 hx' with hx | hx
    · have h1 := h.waitMay x hx
      by_cases e : a = x.1
      · rw [← e, getD_set_same _ _ _ _ (by rw [h.mlen]; exact ha)]
        rw [← e] at h1
        exact List.mem_append_left _ h1
      · rw [getD_set_other _ _ _ _ _ e]; exact h1
    · obtain rfl : x = (a, l) := by simpa using hx
      dsimp only
      rw [getD_set_same _ _ _ _ (by rw [h.mlen]; exact ha)]
      simp
  · have : d.power = false := hq
    rw [hp] at this; cases this
  · rw [nowAt_eq]
    show lastB d.on (d.wait ++ [(a, l)]) k = _
    rw [lastB_snoc]
    dsimp only
    by_cases e : a = k
    · subst e
      rw [if_pos rfl, getD_set_same _ _ _ _ (by rw [h.nlen]; exact ha)]
    · rw [if_neg e, getD_set_other _ _ _ _ _ e]
      exact hn k hk
/-- Of a disk that lies alike. -/
theorem KI.alike {d' : Dm} (h : KI d now may) (h1 : d'.on = d.on) (h2 : d'.wait = d.wait) (h3 : d'.power = false → d.power = false) : KI d' now may :=
  ⟨by rw [h1]; exact h.nlen, by rw [h1]; exact h.mlen, fun k hk => by rw [h1] at hk ⊢; exact h.onMay k hk, fun x hx => by rw [h2] at hx; exact h.waitMay x hx, fun hp => by rw [h2]; exact h.off (h3 hp)⟩
theorem KN.alike {d' : Dm} (h : KN d now) (h1 : d'.on = d.on) (h2 : d'.wait = d.wait) : KN d' now := fun k hk => by
  rw [nowAt_eq, h1, h2, ← nowAt_eq]
  rw [h1] at hk
  exact h k hk
end
/-- The power has gone: what is on the disk is now, for the first j sectors told anew. -/
def nowTo (d : Dm) (now : List (List UInt8)) (j : Nat) : List (List UInt8) := d.on.take j ++ now.drop j
def mayTo (d : Dm) (may : List (List (List UInt8))) (j : Nat) : List (List (List UInt8)) := (d.on.take j).map (fun s => [s]) ++ may.drop j
def nowIf (t : Bool) (d : Dm) (now : List (List UInt8)) (j : Nat) : List (List UInt8) := if t then nowTo d now j else now
def mayIf (t : Bool) (d : Dm) (may : List (List (List UInt8))) (j : Nat) : List (List (List UInt8)) := if t then mayTo d may j else may
theorem upTo_set {α : Type} (a b : List α) (j : Nat) (x : α) (h : j < a.length) (hb : b.length = a.length) (hx : a[j]? = some x) : (a.take j ++ b.drop j).set j x = a.take (j + 1) ++ b.drop (j + 1) := by
  have hl : (a.take j).length = j := by simp; omega
  rw [List.set_append_right _ _ (by omega), hl, Nat.sub_self]
  have e : b.drop j = b[j]'(by omega) :: b.drop (j + 1) := List.drop_eq_getElem_cons (by omega)
  have e2 : a.take (j + 1) = a.take j ++ [x] := by
    rw [List.take_add_one, hx]; rfl
  rw [e, e2, List.set_cons_zero]
  simp
section
variable {d : Dm} {now : List (List UInt8)} {may : List (List (List UInt8))}
theorem nowIf_zero (t : Bool) : nowIf t d now 0 = now := by cases t <;> simp [nowIf, nowTo]
theorem mayIf_zero (t : Bool) : mayIf t d may 0 = may := by cases t <;> simp [mayIf, mayTo]
theorem nowIf_length (t : Bool) (j : Nat) (h : now.length = d.on.length) (hj : j ≤ d.on.length) : (nowIf t d now j).length = d.on.length := by cases t <;> simp [nowIf, nowTo, h]; omega
theorem mayIf_length (t : Bool) (j : Nat) (h : may.length = d.on.length) (hj : j ≤ d.on.length) : (mayIf t d may j).length = d.on.length := by cases t <;> simp [mayIf, mayTo, h]; omega
theorem mayIf_get (t : Bool) (j : Nat) (hj : j < d.on.length) : (mayIf t d may j).getD j [] = may.getD j [] := by
  cases t
  · rfl
  · show (mayTo d may j).getD j [] = _
    have hl : ((d.on.take j).map (fun s => [s])).length = j := by simp; omega
    simp only [mayTo, List.getD]
    rw [List.getElem?_append_right (by omega), hl, Nat.sub_self, List.getElem?_drop, Nat.add_zero]
theorem nowIf_next (j : Nat) (h : now.length = d.on.length) (hj : j < d.on.length) : (nowIf true d now j).set j (d.on.getD j []) = nowIf true d now (j + 1) :=
  upTo_set d.on now j _ hj h (by simp [List.getD, hj])
theorem mayIf_next (j : Nat) (h : may.length = d.on.length) (hj : j < d.on.length) : (mayIf true d may j).set j [d.on.getD j []] = mayIf true d may (j + 1) := by
  have := upTo_set (d.on.map fun s => [s]) may j [d.on.getD j []] (by simpa using hj) (by simpa using h) (by simp [List.getD, hj])
  simpa [mayIf, mayTo, List.map_take] using this
/-- Behind the look: what holds at the next act's beginning. -/
theorem after_look (p : Bool) (ki : KI d now may) (kn : (p && !d.power) = false → KN d now) :
    KI d (nowIf (p && !d.power) d now d.on.length) (mayIf (p && !d.power) d may d.on.length) ∧ KN d (nowIf (p && !d.power) d now d.on.length) := by
  rcases ht : (p && !d.power) with _ | _
  · exact ⟨ki, kn ht⟩
  · have hp : d.power = false := by
      simp at ht; exact ht.2
    have hw := ki.off hp
    have e1 : nowIf true d now d.on.length = d.on := by
      show nowTo d now d.on.length = _
      rw [nowTo, List.take_length, List.drop_eq_nil_of_le (by rw [ki.nlen]; exact Nat.le_refl _), List.append_nil]
    have e2 : mayIf true d may d.on.length = d.on.map fun s => [s] := by
      show mayTo d may d.on.length = _
      rw [mayTo, List.take_length, List.drop_eq_nil_of_le (by rw [ki.mlen]; exact Nat.le_refl _), List.append_nil]
    rw [e1, e2]
    refine ⟨⟨rfl, by simp, fun k hk => by simp [List.getD, hk], fun x hx => (by rw [hw] at hx; exact absurd hx (by simp)), fun _ => hw⟩, fun k hk => ?_⟩
    rw [nowAt_eq, hw]
    rfl
/-- Is it among the first m? -/
def among (l : List (List UInt8)) (s : List UInt8) (m : Nat) : Bool := (l.take m).any fun x => x == s
theorem among_next (l : List (List UInt8)) (s : List UInt8) (m : Nat) (h : m < l.length) : among l s (m + 1) = (among l s m || (l.getD m []) == s) := by
  unfold among
  rw [dtake_snoc l m h, List.any_append]
  simp [List.getD, h]
theorem among_all (l : List (List UInt8)) (s : List UInt8) (h : s ∈ l) : among l s l.length = true := by
  unfold among
  rw [List.take_length, List.any_eq_true]
  exact ⟨s, h, by simp⟩
end
end Go.Proofs.YtfcljcikajaedaaGreatDoor

/- The memory of the law on what was flushed: rows of texts, beside a disk. No condition. -/
namespace Go.Proofs.YtfcljcikajaedaaGreatDoor
open Go.RowKit Go.Maps

/-- A block of a disk, or a new one. -/
def DT (w : World) (k : Nat) : Prop := w.heap.size ≤ k ∨ (∃ cs fr, w.heap[k]? = some (.cells cs 80 fr)) ∨ (∃ cs fr, w.heap[k]? = some (.cells cs 73 fr)) ∨ (∃ cs fr, w.heap[k]? = some (.cells cs 157 fr)) ∨ (∃ es c, w.heap[k]? = some (.map es c))
def LT (t : TypeId) : Prop := t ≠ 80 ∧ t ≠ 73 ∧ t ≠ 157
theorem not_DT {w : World} {k : Nat} {cs : Array Value} {t : TypeId} {fr : Nat × Nat} (h : w.heap[k]? = some (.cells cs t fr)) (ht : LT t) : ¬ DT w k := by
  rintro (e | ⟨cs', fr', e⟩ | ⟨cs', fr', e⟩ | ⟨cs', fr', e⟩ | ⟨es, c, e⟩)
  · rw [Array.getElem?_eq_none e] at h; cases h
  · rw [e] at h; injection h with h; injection h with _ h2; exact ht.1 h2.symm
  · rw [e] at h; injection h with h; injection h with _ h2; exact ht.2.1 h2.symm
  · rw [e] at h; injection h with h; injection h with _ h2; exact ht.2.2 h2.symm
  · rw [e] at h; cases h
theorem own_block {w : World} {base : Nat} {e : TypeId} {size n : Nat} {v : Value} {xs : List Value} {k : Nat} (ho : w.ownsRow base e size v n xs) (hk : v.ownBlock = some k) : ∃ cur, w.heap[k]? = some (.cells cur e (0, 0)) := by
  rcases ho.2 with ⟨rfl, _⟩ | ⟨g', cap, cur, rfl, _, hh, _⟩
  · simp [Value.ownBlock] at hk
  · simp [Value.ownBlock] at hk; subst hk; exact ⟨cur, hh⟩
theorem Dsk.both {B : Nat} {w : World} {b : Nat} {d : Dm} (h : Dsk (fun k => B ≤ k) w b d) : Dsk (fun k => B ≤ k ∧ DT w k) w b d := by
  obtain ⟨vs, vw, gm, h1, h2⟩ := h
  refine ⟨vs, vw, gm, h1, fun k hk => ⟨h2 k hk, ?_⟩⟩
  rcases hk with rfl | e | e | rfl
  · exact .inr (.inl ⟨_, _, h1.box⟩)
  · obtain ⟨cur, hc⟩ := own_block h1.st e; exact .inr (.inr (.inl ⟨_, _, hc⟩))
  · obtain ⟨cur, hc⟩ := own_block h1.wt e; exact .inr (.inr (.inr (.inl ⟨_, _, hc⟩)))
  · obtain ⟨n, D, ⟨es, clock, hm, _⟩, _⟩ := h1.nm; exact .inr (.inr (.inr (.inr ⟨_, _, hm⟩)))
theorem both_new {B : Nat} {w : World} (hB : B ≤ w.heap.size) : ∀ k, w.heap.size ≤ k → B ≤ k ∧ DT w k := fun _ h => ⟨Nat.le_trans hB h, .inl h⟩
theorem Dsk.one {B : Nat} {w W : World} {b : Nat} {d : Dm} (h : Dsk (fun k => B ≤ k ∧ DT W k) w b d) : Dsk (fun k => B ≤ k) w b d := h.mono fun _ h => h.1
theorem Kp.one' {B : Nat} {w w' W : World} (h : Kp (fun k => B ≤ k ∧ DT W k) w w') : Kp (fun k => B ≤ k) w w' := h.mono fun _ _ h => h.1
theorem Box.dt {B : Nat} {w w' : World} {g : Nat} {t : TypeId} {cs : Array Value} (h : Box w g t cs) (hk : Kp (fun k => B ≤ k ∧ DT w k) w w') (ht : LT t) : Box w' g t cs := h.kp hk fun e => not_DT h ht e.2

/-- A cell of a block that is no disk's is told anew. -/
theorem Dsk.off_cell {F : Nat → Prop} {w : World} {b : Nat} {d : Dm} {g : Nat} {t : TypeId} {cs : Array Value} (h : Dsk F w b d) (hg : Box w g t cs) (ht : LT t) (i : Nat) (u : Value) : Dsk F (w.setCell ⟨g, i, none⟩ u) b d := by
  obtain ⟨vs, vw, gm, h1, h2⟩ := h
  refine ⟨vs, vw, gm, h1.kp (Kp.one w g i u) fun k hk e => ?_, h2⟩
  have e' : k = g := e
  subst e'
  rcases hk with rfl | e | e | rfl
  · exact Box.type_ne hg h1.box ht.1 rfl
  · obtain ⟨cur, hc⟩ := own_block h1.st e; exact Box.type_ne hg hc ht.2.1 rfl
  · obtain ⟨cur, hc⟩ := own_block h1.wt e; exact Box.type_ne hg hc ht.2.2 rfl
  · obtain ⟨n, D, ⟨es, clock, hm, _⟩, _⟩ := h1.nm; unfold Box at hg; rw [hm] at hg; cases hg
/-- Texts, a cell each. -/
def strs (l : List (List UInt8)) : List Value := l.map fun s => .string ⟨s.toArray⟩
theorem strs_length (l : List (List UInt8)) : (strs l).length = l.length := by simp [strs]
theorem strs_get (l : List (List UInt8)) (k : Nat) (h : k < l.length) : (strs l)[k]? = some (.string ⟨(l.getD k []).toArray⟩) := by simp [strs, h]
theorem strs_set (l : List (List UInt8)) (k : Nat) (s : List UInt8) : (strs l).toArray.setIfInBounds k (.string ⟨s.toArray⟩) = (strs (l.set k s)).toArray := by
  rw [List.setIfInBounds_toArray]
  congr 1
  simp [strs, List.map_set]
theorem strs_snoc (l : List (List UInt8)) (s : List UInt8) : strs (l ++ [s]) = strs l ++ [.string ⟨s.toArray⟩] := by simp [strs]

/-- What sectors are now, and what they may be, as the law keeps them. -/
structure Lw (B : Nat) (w : World) (gn gy : Nat) (now : List (List UInt8)) (may : List (List (List UInt8))) : Prop where
  bn : B ≤ gn
  by_ : B ≤ gy
  nb : Box w gn 9 (strs now).toArray
  rows : ∃ mv : List Value, Box w gy 33 mv.toArray ∧ mv.length = may.length ∧ (∀ (k : Nat) (v : Value) (l : List (List UInt8)), mv[k]? = some v → may[k]? = some l → w.ownsRow B 9 1 v l.length (strs l) ∧ v.ownBlock ≠ some gn) ∧
    (∀ (i j : Nat) (v v' : Value) (g : Nat), mv[i]? = some v → mv[j]? = some v' → v.ownBlock = some g → v'.ownBlock = some g → i = j)
section
variable {B : Nat} {w w' : World} {gn gy : Nat} {now : List (List UInt8)} {may : List (List (List UInt8))}
theorem Lw.kp {S : Nat → Prop} (h : Lw B w gn gy now may) (hk : Kp S w w') (hn : ∀ k cs fr, w.heap[k]? = some (.cells cs 9 fr) ∨ w.heap[k]? = some (.cells cs 33 fr) → ¬ S k) : Lw B w' gn gy now may := by
  obtain ⟨mv, h1, h2, h3, h4⟩ := h.rows
  refine ⟨h.bn, h.by_, h.nb.kp hk (hn _ _ _ (.inl h.nb)), mv, h1.kp hk (hn _ _ _ (.inr h1)), h2, fun k v l hv hl => ⟨down_kp (h3 k v l hv hl).1 hk fun q hq => ?_, (h3 k v l hv hl).2⟩, h4⟩
  obtain ⟨cur, hc⟩ := own_block (h3 k v l hv hl).1 hq
  exact hn _ _ _ (.inl hc)
theorem Lw.dt (h : Lw B w gn gy now may) (hk : Kp (fun k => B ≤ k ∧ DT w k) w w') : Lw B w' gn gy now may :=
  h.kp hk fun k cs fr e hh => by
    rcases e with e | e
    · exact not_DT e ⟨by decide, by decide, by decide⟩ hh.2
    · exact not_DT e ⟨by decide, by decide, by decide⟩ hh.2
theorem Lw.still (h : Lw B w gn gy now may) (hk : Kp (fun _ => False) w w') : Lw B w' gn gy now may := h.kp hk fun _ _ _ _ h => h
theorem Lw.alloc (h : Lw B w gn gy now may) (o : Obj) : Lw B (w.alloc o) gn gy now may := h.still ((Kp.refl _ w).alloc o)
theorem Lw.drew (h : Lw B w gn gy now may) : Lw B w.drew gn gy now may := h.still ((Kp.refl _ w).drew)
theorem Lw.ny (h : Lw B w gn gy now may) : gn ≠ gy := by
  obtain ⟨mv, h1, _⟩ := h.rows
  exact h.nb.type_ne h1 (by decide)
theorem Lw.now_cell (h : Lw B w gn gy now may) (k : Nat) (hk : k < now.length) : w.cell? ⟨gn, k, none⟩ = some (.string ⟨(now.getD k []).toArray⟩) := by
  rw [h.nb.cell, List.getElem?_toArray]
  exact strs_get now k hk
theorem Lw.may_cell (h : Lw B w gn gy now may) (k : Nat) (hk : k < may.length) : ∃ A cap, w.cell? ⟨gy, k, none⟩ = some (.slice A (may.getD k []).length cap) ∧ (may.getD k []).length ≤ cap ∧ w.ownsRow B 9 1 (.slice A (may.getD k []).length cap) (may.getD k []).length (strs (may.getD k [])) := by
  obtain ⟨mv, h1, h2, h3, h4⟩ := h.rows
  have hl : may[k]? = some (may.getD k []) := by simp [List.getD, hk]
  have hv : mv[k]? = some mv[k] := List.getElem?_eq_getElem (by omega)
  have ho := (h3 k _ _ hv hl).1
  have hc : w.cell? ⟨gy, k, none⟩ = some mv[k] := by rw [h1.cell, List.getElem?_toArray, hv]
  rcases ho.2 with ⟨e, e2⟩ | ⟨g, cap, cur, e, _, _, hcap, _⟩
  · rw [e] at ho hc
    rw [e2] at ho
    exact ⟨none, 0, by rw [hc, e2], by omega, by rw [e2]; exact ho⟩
  · rw [e] at ho hc
    exact ⟨_, cap, hc, hcap, ho⟩
/-- What is now, of one sector, is told anew. -/
theorem Lw.setNow (h : Lw B w gn gy now may) (k : Nat) (s : List UInt8) : Lw B (w.setCell ⟨gn, k, none⟩ (.string ⟨s.toArray⟩)) gn gy (now.set k s) may := by
  obtain ⟨mv, h1, h2, h3, h4⟩ := h.rows
  have hk := Kp.one w gn k (.string ⟨s.toArray⟩)
  refine ⟨h.bn, h.by_, ?_, mv, h1.kp hk (fun e => h.ny e.symm), h2, fun j v l hv hl => ⟨down_kp (h3 j v l hv hl).1 hk fun q hq e => (h3 j v l hv hl).2 (by rw [hq, show q = gn from e]), (h3 j v l hv hl).2⟩, h4⟩
  have := h.nb.put k (.string ⟨s.toArray⟩)
  rwa [strs_set] at this
/-- A row is another one. -/
theorem Lw.setMay {w1 : World} {k : Nat} {v' : Value} {l' : List (List UInt8)} {S : Nat → Prop} (h : Lw B w gn gy now may) (hk : Kp S w w1) (hgn : ¬ S gn) (hgy : ¬ S gy) (hkl : k < may.length)
    (hS : ∀ (j : Nat) (v : Value) (g : Nat), j ≠ k → w.cell? ⟨gy, j, none⟩ = some v → v.ownBlock = some g → ¬ S g ∧ v'.ownBlock ≠ some g) (ho : w1.ownsRow B 9 1 v' l'.length (strs l')) (hv' : v'.ownBlock ≠ some gn) :
    Lw B (w1.setCell ⟨gy, k, none⟩ v') gn gy now (may.set k l') := by
  obtain ⟨mv, h1, h2, h3, h4⟩ := h.rows
  have hs := Kp.one w1 gy k v'
  have hgy1 : ∃ cs, Box w1 gy 33 cs := ⟨_, h1.kp hk hgy⟩
  have hcell : ∀ j v, mv[j]? = some v → w.cell? ⟨gy, j, none⟩ = some v := fun j v hv => by rw [h1.cell, List.getElem?_toArray, hv]
  have hne : ∀ {v : Value} {n : Nat} {xs : List Value}, w1.ownsRow B 9 1 v n xs → v.ownBlock ≠ some gy := fun ho e => by
    obtain ⟨cur, hc⟩ := own_block ho e
    obtain ⟨cs, hb⟩ := hgy1
    exact Box.type_ne (t := 9) hc hb (by decide) rfl
  refine ⟨h.bn, h.by_, (h.nb.kp hk hgn).kp hs h.ny, mv.set k v', ?_, by simp [h2], fun j v l hv hl => ?_, fun i j v u g hi hj hv hu => ?_⟩
  · have := (h1.kp hk hgy).put k v'
    rwa [List.setIfInBounds_toArray] at this
  · by_cases e : k = j
    · subst e
      have e1 : v = v' := by rw [List.getElem?_set_self (by omega)] at hv; exact (Option.some.inj hv).symm
      have e2 : l = l' := by rw [List.getElem?_set_self hkl] at hl; exact (Option.some.inj hl).symm
      subst e1; subst e2
      exact ⟨down_kp ho hs fun q hq e => hne ho (by rw [hq, show q = gy from e]), hv'⟩
    · rw [List.getElem?_set_ne e] at hv hl
      have ho1 := down_kp (h3 j v l hv hl).1 hk fun q hq => (hS j v q (fun e2 => e e2.symm) (hcell j v hv) hq).1
      exact ⟨down_kp ho1 hs fun q hq e => hne ho1 (by rw [hq, show q = gy from e]), (h3 j v l hv hl).2⟩
  · by_cases e : k = i
    · subst e
      by_cases e' : k = j
      · exact e'
      · rw [List.getElem?_set_self (by omega)] at hi
        rw [List.getElem?_set_ne e'] at hj
        cases hi
        exact absurd hv (hS j u g (fun e2 => e' e2.symm) (hcell j u hj) hu).2
    · rw [List.getElem?_set_ne e] at hi
      by_cases e' : k = j
      · subst e'
        rw [List.getElem?_set_self (by omega)] at hj
        cases hj
        exact absurd hu (hS i v g (fun e2 => e e2.symm) (hcell i v hi) hv).2
      · rw [List.getElem?_set_ne e'] at hj
        exact h4 i j v u g hi hj hv hu
theorem Lw.start (h : Lw B w gn gy now may) (t : Bool) (d : Dm) : Lw B w gn gy (nowIf t d now 0) (mayIf t d may 0) := by rw [nowIf_zero, mayIf_zero]; exact h
theorem dstr_eq (a b : List UInt8) : ((⟨a.toArray⟩ : ByteArray).toList == (⟨b.toArray⟩ : ByteArray).toList) = (a == b) := by rw [ByteArray.toList_eq, ByteArray.toList_eq]
theorem Lw.lt (h : Lw B w gn gy now may) : gn < w.heap.size ∧ gy < w.heap.size := by
  obtain ⟨mv, h1, _⟩ := h.rows
  exact ⟨h.nb.lt, h1.lt⟩
/-- A row of one text, in a new block. -/
theorem Lw.reset (h : Lw B w gn gy now may) (hB : B ≤ w.heap.size) (k : Nat) (hk : k < may.length) (s : List UInt8) :
    Lw B ((w.alloc (.cells #[.string ⟨s.toArray⟩] 9)).setCell ⟨gy, k, none⟩ (.slice (some ⟨w.heap.size, 0, none⟩) 1 1)) gn gy now (may.set k [s]) := by
  have hl := h.lt
  obtain ⟨mv, h1, h2, h3, h4⟩ := h.rows
  refine h.setMay (S := fun _ => False) ((Kp.refl _ w).alloc _) (fun h => h) (fun h => h) hk (fun j v g _ hc hg => ⟨fun h => h, fun e => ?_⟩) ?_ (by simp [Value.ownBlock]; omega)
  · simp [Value.ownBlock] at e
    have hj : mv[j]? = some v := by rw [h1.cell, List.getElem?_toArray] at hc; exact hc
    have hjl : j < may.length := by rw [← h2]; exact (List.getElem?_eq_some_iff.1 hj).1
    have := ((h3 j v _ hj (List.getElem?_eq_getElem hjl)).1.lt g hg).2
    omega
  · exact ⟨rfl, .inr ⟨w.heap.size, 1, _, rfl, hB, heap_alloc_new w _, Nat.le_refl _, by decide, rfl, rfl⟩⟩
/-- A row of one text more. -/
theorem Lw.app {w4 : World} {o : Obj} {v v' : Value} (h : Lw B w gn gy now may) (k : Nat) (hk : k < may.length) (s : List UInt8) (hc : w.cell? ⟨gy, k, none⟩ = some v)
    (ho : w4.ownsRow B 9 1 v' ((may.getD k []).length + 1) (strs (may.getD k []) ++ [.string ⟨s.toArray⟩])) (hg : (w.drew.alloc o).grownBy w4 v.ownBlock) (hat : ∀ g, v'.ownBlock = some g → v.ownBlock = some g ∨ g = w.heap.size + 1) :
    Lw B (w4.setCell ⟨gy, k, none⟩ v') gn gy now (may.set k (may.getD k [] ++ [s])) := by
  have hl := h.lt
  obtain ⟨mv, h1, h2, h3, h4⟩ := h.rows
  have hcell : ∀ j u, w.cell? ⟨gy, j, none⟩ = some u → mv[j]? = some u := fun j u hu => by rw [h1.cell, List.getElem?_toArray] at hu; exact hu
  have hml : ∀ j (hj : j < may.length), may[j]? = some may[j] := fun j hj => List.getElem?_eq_getElem hj
  have hv := hcell k v hc
  have hov := (h3 k v _ hv (hml k hk))
  have k4 : Kp (fun q => v.ownBlock = some q) w w4 := ((Kp.refl _ w).drew.alloc o).grown hg (fun q e => .inr e)
  refine h.setMay k4 hov.2 (fun e => ?_) hk (fun j u g hj hu hg' => ⟨fun e => hj (h4 j k u v g (hcell j u hu) hv hg' e), fun e => ?_⟩) (by
    rw [List.length_append, strs_snoc]
    exact ho) (fun e => ?_)
  · obtain ⟨cur, hc2⟩ := own_block hov.1 e
    exact Box.type_ne (t := 9) hc2 h1 (by decide) rfl
  · rcases hat g e with e2 | e2
    · exact hj (h4 j k u v g (hcell j u hu) hv hg' e2)
    · have hj2 := hcell j u hu
      have hjl : j < may.length := by rw [← h2]; exact (List.getElem?_eq_some_iff.1 hj2).1
      have := ((h3 j u _ hj2 (hml j hjl)).1.lt g hg').2
      omega
  · rcases hat gn e with e2 | e2
    · exact hov.2 e2
    · omega
end
/-- No row is long. -/
def Few (may : List (List (List UInt8))) (i : Nat) : Prop := ∀ r ∈ may, r.length ≤ i + 1
theorem Few.mono {may : List (List (List UInt8))} {i : Nat} (h : Few may i) : Few may (i + 1) := fun r hr => Nat.le_succ_of_le (h r hr)
theorem Few.ones (now : List (List UInt8)) (i : Nat) : Few (now.map fun s => [s]) i := fun r hr => by
  obtain ⟨s, _, rfl⟩ := List.mem_map.1 hr
  simp
theorem Few.look {may : List (List (List UInt8))} {i : Nat} (h : Few may i) (t : Bool) (d : Dm) (j : Nat) : Few (mayIf t d may j) i := fun r hr => by
  cases t
  · exact h r hr
  · have hr' : r ∈ mayTo d may j := hr
    rcases List.mem_append.1 hr' with hr | hr
    · exact Few.ones _ i r hr
    · exact h r (List.mem_of_mem_drop hr)
theorem Few.get {may : List (List (List UInt8))} {i : Nat} (h : Few may i) (k : Nat) : (may.getD k []).length ≤ i + 1 := by
  rcases Nat.lt_or_ge k may.length with hk | hk
  · have e : may.getD k [] = may[k] := by simp [List.getD, hk]
    rw [e]
    exact h _ (List.getElem_mem _)
  · have e : may.getD k [] = [] := by simp [List.getD, hk]
    rw [e]
    exact Nat.zero_le _
theorem Few.push {may : List (List (List UInt8))} {i : Nat} (h : Few may i) (k : Nat) (s : List UInt8) : Few (may.set k (may.getD k [] ++ [s])) (i + 1) := fun r hr => by
  rcases List.mem_or_eq_of_mem_set hr with hr | rfl
  · exact Nat.le_succ_of_le (h r hr)
  · have := h.get k
    simp only [List.length_append, List.length_singleton]
    omega
/-- What holds at each act's beginning. -/
def KRel (B : Nat) (w : World) (gn gy b n i : Nat) (wr : World) : Prop := ∃ d now may, Lw B wr gn gy now may ∧ Dsk (fun k => B ≤ k) wr b d ∧ KI d now may ∧ KN d now ∧ d.on.length = n ∧ d.wait.length ≤ i ∧ Few may i ∧ Kp (fun k => B ≤ k) w wr
/-- What holds behind an act, ahead of the look at the disk. -/
def KMid (B : Nat) (w : World) (gn gy b n i : Nat) (p : Bool) (wr : World) : Prop := ∃ d now may, Lw B wr gn gy now may ∧ Dsk (fun k => B ≤ k) wr b d ∧ KI d now may ∧ ((p && !d.power) = false → KN d now) ∧ d.on.length = n ∧ d.wait.length ≤ i ∧ Few may i ∧ Kp (fun k => B ≤ k) w wr

section
variable {B : Nat} {w W W2 : World} {gn gy b n i : Nat} {d : Dm} {now : List (List UInt8)} {may : List (List (List UInt8))}
/-- An act that turns nothing of what is. -/
theorem mid_alike {d' : Dm} (lw : Lw B W2 gn gy now may) (dk : Dsk (fun k => B ≤ k) W2 b d') (ki : KI d now may) (kn : KN d now) (h1 : d'.on = d.on) (h2 : d'.wait = d.wait) (h3 : d'.power = false → d.power = false) (hn : d.on.length = n) (hw : d.wait.length ≤ i) (hf : Few may i) (q : Kp (fun k => B ≤ k) w W2) :
    KMid B w gn gy b n (i + 1) d.power W2 :=
  ⟨d', now, may, lw, dk, ki.alike h1 h2 h3, fun _ => kn.alike h1 h2, by rw [h1]; exact hn, by rw [h2]; omega, hf.mono, q⟩
/-- The power goes. -/
theorem mid_lose (ok : d.ok) (l : List UInt8) (lw : Lw B W2 gn gy now may) (dk : Dsk (fun k => B ≤ k) W2 b (d.lose l)) (ki : KI d now may) (hp : d.power = true) (hn : d.on.length = n) (hf : Few may i) (q : Kp (fun k => B ≤ k) w W2) :
    KMid B w gn gy b n (i + 1) d.power W2 :=
  ⟨d.lose l, now, may, lw, dk, ki.lose ok l, fun h => by rw [hp] at h; exact absurd h (by simp [Dm.lose]), by simpa [Dm.lose, settleL_length] using hn, by simp [Dm.lose], hf.mono, q⟩
theorem Dsk.ok {F : Nat → Prop} (h : Dsk F W b d) : d.ok := by
  obtain ⟨_, _, _, h, _⟩ := h
  exact h.ok
end
theorem act_cells {v : World} {ga : Nat} {t : TypeId} {c0 c1 c2 c3 c4 : Value} (h : Box v ga t #[c0, c1, c2, c3, c4]) : v.cell? ⟨ga, 0, none⟩ = some c0 ∧ v.cell? ⟨ga, 1, none⟩ = some c1 ∧ v.cell? ⟨ga, 2, none⟩ = some c2 ∧ v.cell? ⟨ga, 3, none⟩ = some c3 ∧ v.cell? ⟨ga, 4, none⟩ = some c4 :=
  ⟨h.cell 0, h.cell 1, h.cell 2, h.cell 3, h.cell 4⟩
theorem Dsk.kp_own {F : Nat → Prop} {w w' : World} {b : Nat} {d : Dm} {base : Nat} {e : TypeId} {size n : Nat} {v : Value} {xs : List Value} (h : Dsk F w b d) (hk : Kp (fun q => v.ownBlock = some q) w w') (ho : w.ownsRow base e size v n xs) (he : LT e) : Dsk F w' b d := by
  obtain ⟨vs, vw, gm, h1, h2⟩ := h
  refine ⟨vs, vw, gm, h1.kp hk fun k hf e' => ?_, h2⟩
  obtain ⟨cur, hc⟩ := own_block ho e'
  rcases hf with rfl | e | e | rfl
  · exact Box.type_ne hc h1.box he.1 rfl
  · obtain ⟨cur', hc'⟩ := own_block h1.st e; exact Box.type_ne hc hc' he.2.1 rfl
  · obtain ⟨cur', hc'⟩ := own_block h1.wt e; exact Box.type_ne hc hc' he.2.2 rfl
  · obtain ⟨n, D, ⟨es, clock, hm, _⟩, _⟩ := h1.nm; rw [hm] at hc; cases hc
theorem Lw.may_cell2 {B : Nat} {w : World} {gn gy : Nat} {now : List (List UInt8)} {may : List (List (List UInt8))} (h : Lw B w gn gy now may) (k : Nat) (hk : k < may.length) : ∃ A cap mv, w.cell? ⟨gy, k, none⟩ = some (.slice A (may.getD k []).length cap) ∧ w.ownsRow B 9 1 (.slice A (may.getD k []).length cap) (may.getD k []).length (strs (may.getD k [])) ∧
    (Value.slice A (may.getD k []).length cap).ownBlock ≠ some gn ∧ (Value.slice A (may.getD k []).length cap).ownBlock ≠ some gy ∧ Box w gy 33 mv := by
  obtain ⟨mv, h1, h2, h3, h4⟩ := h.rows
  obtain ⟨A, cap, hc, _, ho⟩ := h.may_cell k hk
  have hv : mv[k]? = some (.slice A (may.getD k []).length cap) := by rw [h1.cell, List.getElem?_toArray] at hc; exact hc
  have hl : may[k]? = some (may.getD k []) := by simp [List.getD, hk]
  refine ⟨A, cap, _, hc, ho, (h3 k _ _ hv hl).2, fun e => ?_, h1⟩
  obtain ⟨cur, hc2⟩ := own_block ho e
  exact Box.type_ne (t := 9) hc2 h1 (by decide) rfl
/-- What sectors may be, while all is flushed. -/
def mayN (now : List (List UInt8)) (may : List (List (List UInt8))) (j : Nat) : List (List (List UInt8)) := (now.take j).map (fun s => [s]) ++ may.drop j
theorem mayN_zero (now : List (List UInt8)) (may : List (List (List UInt8))) : mayN now may 0 = may := by simp [mayN]
theorem mayN_length (now : List (List UInt8)) (may : List (List (List UInt8))) (j : Nat) (h : may.length = now.length) (hj : j ≤ now.length) : (mayN now may j).length = now.length := by simp [mayN, h]; omega
theorem mayN_next (now : List (List UInt8)) (may : List (List (List UInt8))) (j : Nat) (h : may.length = now.length) (hj : j < now.length) : (mayN now may j).set j [now.getD j []] = mayN now may (j + 1) := by
  have := upTo_set (now.map fun s => [s]) may j [now.getD j []] (by simpa using hj) (by simpa using h) (by simp [List.getD, hj])
  simpa [mayN, List.map_take] using this
theorem mayN_all (now : List (List UInt8)) (may : List (List (List UInt8))) (h : may.length = now.length) : mayN now may now.length = now.map fun s => [s] := by
  rw [mayN, List.take_length, List.drop_eq_nil_of_le (by omega), List.append_nil]
end Go.Proofs.YtfcljcikajaedaaGreatDoor
