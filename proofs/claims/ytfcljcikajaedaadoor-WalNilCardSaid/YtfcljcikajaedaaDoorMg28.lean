/- The memory of the law on what was flushed: rows of texts, beside a disk. No condition. -/
import Derived.Test.YtfcljcikajaedaaDoorMg27
namespace Go.Proofs.YtfcljcikajaedaaDoor
open Go.RowKit Go.Maps

/-- A block of a disk, or a new one. -/
def DT (w : World) (k : Nat) : Prop := w.heap.size ≤ k ∨ (∃ cs fr, w.heap[k]? = some (.cells cs 62 fr)) ∨ (∃ cs fr, w.heap[k]? = some (.cells cs 91 fr)) ∨ (∃ cs fr, w.heap[k]? = some (.cells cs 94 fr)) ∨ (∃ es c, w.heap[k]? = some (.map es c))
def LT (t : TypeId) : Prop := t ≠ 62 ∧ t ≠ 91 ∧ t ≠ 94
theorem not_DT {w : World} {k : Nat} {cs : Array Value} {t : TypeId} {fr : Nat × Nat} (h : w.heap[k]? = some (.cells cs t fr)) (ht : LT t) : ¬ DT w k := by
  rintro (e | ⟨cs', fr', e⟩ | ⟨cs', fr', e⟩ | ⟨cs', fr', e⟩ | ⟨es, c, e⟩)
  · rw [Array.getElem?_eq_none e] at h; cases h
  · rw [e] at h; injection h with h; injection h with _ h2; exact ht.1 h2.symm
  · rw [e] at h; injection h with h; injection h with _ h2; exact ht.2.1 h2.symm
  · rw [e] at h; injection h with h; injection h with _ h2; exact ht.2.2 h2.symm
  · rw [e] at h; cases h
theorem own_block {w : World} {base : Nat} {e : TypeId} {size n : Nat} {v : Value} {xs : List Value} {k : Nat} (ho : w.ownsRow base e size v n xs) (hk : v.ownBlock = some k) : ∃ cur, w.heap[k]? = some (.cells cur e (0, 0)) := by
  rcases ho.2 with ⟨rfl, _⟩ | ⟨g', cap, cur, rfl, _, hh, _⟩
  · simp [Value.ownBlock] at hk
  · simp [Value.ownBlock] at hk; subst hk; exact ⟨cur, hh⟩
theorem Dsk.both {B : Nat} {w : World} {b : Nat} {d : Dm} (h : Dsk (fun k => B ≤ k) w b d) : Dsk (fun k => B ≤ k ∧ DT w k) w b d := by
  obtain ⟨vs, vw, gm, h1, h2⟩ := h
  refine ⟨vs, vw, gm, h1, fun k hk => ⟨h2 k hk, ?_⟩⟩
  rcases hk with rfl | e | e | rfl
  · exact .inr (.inl ⟨_, _, h1.box⟩)
  · obtain ⟨cur, hc⟩ := own_block h1.st e; exact .inr (.inr (.inl ⟨_, _, hc⟩))
  · obtain ⟨cur, hc⟩ := own_block h1.wt e; exact .inr (.inr (.inr (.inl ⟨_, _, hc⟩)))
  · obtain ⟨n, D, ⟨es, clock, hm, _⟩, _⟩ := h1.nm; exact .inr (.inr (.inr (.inr ⟨_, _, hm⟩)))
theorem both_new {B : Nat} {w : World} (hB : B ≤ w.heap.size) : ∀ k, w.heap.size ≤ k → B ≤ k ∧ DT w k := fun _ h => ⟨Nat.le_trans hB h, .inl h⟩
theorem Dsk.one {B : Nat} {w W : World} {b : Nat} {d : Dm} (h : Dsk (fun k => B ≤ k ∧ DT W k) w b d) : Dsk (fun k => B ≤ k) w b d := h.mono fun _ h => h.1
theorem Kp.one' {B : Nat} {w w' W : World} (h : Kp (fun k => B ≤ k ∧ DT W k) w w') : Kp (fun k => B ≤ k) w w' := h.mono fun _ _ h => h.1
theorem Box.dt {B : Nat} {w w' : World} {g : Nat} {t : TypeId} {cs : Array Value} (h : Box w g t cs) (hk : Kp (fun k => B ≤ k ∧ DT w k) w w') (ht : LT t) : Box w' g t cs := h.kp hk fun e => not_DT h ht e.2

/-- A cell of a block that is no disk's is told anew. -/
theorem Dsk.off_cell {F : Nat → Prop} {w : World} {b : Nat} {d : Dm} {g : Nat} {t : TypeId} {cs : Array Value} (h : Dsk F w b d) (hg : Box w g t cs) (ht : LT t) (i : Nat) (u : Value) : Dsk F (w.setCell ⟨g, i, none⟩ u) b d := by
  obtain ⟨vs, vw, gm, h1, h2⟩ := h
  refine ⟨vs, vw, gm, h1.kp (Kp.one w g i u) fun k hk e => ?_, h2⟩
  have e' : k = g := e
  subst e'
  rcases hk with rfl | e | e | rfl
  · exact Box.type_ne hg h1.box ht.1 rfl
  · obtain ⟨cur, hc⟩ := own_block h1.st e; exact Box.type_ne hg hc ht.2.1 rfl
  · obtain ⟨cur, hc⟩ := own_block h1.wt e; exact Box.type_ne hg hc ht.2.2 rfl
  · obtain ⟨n, D, ⟨es, clock, hm, _⟩, _⟩ := h1.nm; unfold Box at hg; rw [hm] at hg; cases hg
/-- Texts, a cell each. -/
def strs (l : List (List UInt8)) : List Value := l.map fun s => .string ⟨s.toArray⟩
theorem strs_length (l : List (List UInt8)) : (strs l).length = l.length := by simp [strs]
theorem strs_get (l : List (List UInt8)) (k : Nat) (h : k < l.length) : (strs l)[k]? = some (.string ⟨(l.getD k []).toArray⟩) := by simp [strs, h]
theorem strs_set (l : List (List UInt8)) (k : Nat) (s : List UInt8) : (strs l).toArray.setIfInBounds k (.string ⟨s.toArray⟩) = (strs (l.set k s)).toArray := by
  rw [List.setIfInBounds_toArray]
  congr 1
  simp [strs, List.map_set]
theorem strs_snoc (l : List (List UInt8)) (s : List UInt8) : strs (l ++ [s]) = strs l ++ [.string ⟨s.toArray⟩] := by simp [strs]

/-- What sectors are now, and what they may be, as the law keeps them. -/
structure Lw (B : Nat) (w : World) (gn gy : Nat) (now : List (List UInt8)) (may : List (List (List UInt8))) : Prop where
  bn : B ≤ gn
  by_ : B ≤ gy
  nb : Box w gn 9 (strs now).toArray
  rows : ∃ mv : List Value, Box w gy 24 mv.toArray ∧ mv.length = may.length ∧ (∀ (k : Nat) (v : Value) (l : List (List UInt8)), mv[k]? = some v → may[k]? = some l → w.ownsRow B 9 1 v l.length (strs l) ∧ v.ownBlock ≠ some gn) ∧
    (∀ (i j : Nat) (v v' : Value) (g : Nat), mv[i]? = some v → mv[j]? = some v' → v.ownBlock = some g → v'.ownBlock = some g → i = j)
section
variable {B : Nat} {w w' : World} {gn gy : Nat} {now : List (List UInt8)} {may : List (List (List UInt8))}
theorem Lw.kp {S : Nat → Prop} (h : Lw B w gn gy now may) (hk : Kp S w w') (hn : ∀ k cs fr, w.heap[k]? = some (.cells cs 9 fr) ∨ w.heap[k]? = some (.cells cs 24 fr) → ¬ S k) : Lw B w' gn gy now may := by
  obtain ⟨mv, h1, h2, h3, h4⟩ := h.rows
  refine ⟨h.bn, h.by_, h.nb.kp hk (hn _ _ _ (.inl h.nb)), mv, h1.kp hk (hn _ _ _ (.inr h1)), h2, fun k v l hv hl => ⟨down_kp (h3 k v l hv hl).1 hk fun q hq => ?_, (h3 k v l hv hl).2⟩, h4⟩
  obtain ⟨cur, hc⟩ := own_block (h3 k v l hv hl).1 hq
  exact hn _ _ _ (.inl hc)
theorem Lw.dt (h : Lw B w gn gy now may) (hk : Kp (fun k => B ≤ k ∧ DT w k) w w') : Lw B w' gn gy now may :=
  h.kp hk fun k cs fr e hh => by
    rcases e with e | e
    · exact not_DT e ⟨by decide, by decide, by decide⟩ hh.2
    · exact not_DT e ⟨by decide, by decide, by decide⟩ hh.2
theorem Lw.still (h : Lw B w gn gy now may) (hk : Kp (fun _ => False) w w') : Lw B w' gn gy now may := h.kp hk fun _ _ _ _ h => h
theorem Lw.alloc (h : Lw B w gn gy now may) (o : Obj) : Lw B (w.alloc o) gn gy now may := h.still ((Kp.refl _ w).alloc o)
theorem Lw.drew (h : Lw B w gn gy now may) : Lw B w.drew gn gy now may := h.still ((Kp.refl _ w).drew)
theorem Lw.ny (h : Lw B w gn gy now may) : gn ≠ gy := by
  obtain ⟨mv, h1, _⟩ := h.rows
  exact h.nb.type_ne h1 (by decide)
theorem Lw.now_cell (h : Lw B w gn gy now may) (k : Nat) (hk : k < now.length) : w.cell? ⟨gn, k, none⟩ = some (.string ⟨(now.getD k []).toArray⟩) := by
  rw [h.nb.cell, List.getElem?_toArray]
  exact strs_get now k hk
theorem Lw.may_cell (h : Lw B w gn gy now may) (k : Nat) (hk : k < may.length) : ∃ A cap, w.cell? ⟨gy, k, none⟩ = some (.slice A (may.getD k []).length cap) ∧ (may.getD k []).length ≤ cap ∧ w.ownsRow B 9 1 (.slice A (may.getD k []).length cap) (may.getD k []).length (strs (may.getD k [])) := by
  obtain ⟨mv, h1, h2, h3, h4⟩ := h.rows
  have hl : may[k]? = some (may.getD k []) := by simp [List.getD, hk]
  have hv : mv[k]? = some mv[k] := List.getElem?_eq_getElem (by omega)
  have ho := (h3 k _ _ hv hl).1
  have hc : w.cell? ⟨gy, k, none⟩ = some mv[k] := by rw [h1.cell, List.getElem?_toArray, hv]
  rcases ho.2 with ⟨e, e2⟩ | ⟨g, cap, cur, e, _, _, hcap, _⟩
  · rw [e] at ho hc
    rw [e2] at ho
    exact ⟨none, 0, by rw [hc, e2], by omega, by rw [e2]; exact ho⟩
  · rw [e] at ho hc
    exact ⟨_, cap, hc, hcap, ho⟩
/-- What is now, of one sector, is told anew. -/
theorem Lw.setNow (h : Lw B w gn gy now may) (k : Nat) (s : List UInt8) : Lw B (w.setCell ⟨gn, k, none⟩ (.string ⟨s.toArray⟩)) gn gy (now.set k s) may := by
  obtain ⟨mv, h1, h2, h3, h4⟩ := h.rows
  have hk := Kp.one w gn k (.string ⟨s.toArray⟩)
  refine ⟨h.bn, h.by_, ?_, mv, h1.kp hk (fun e => h.ny e.symm), h2, fun j v l hv hl => ⟨down_kp (h3 j v l hv hl).1 hk fun q hq e => (h3 j v l hv hl).2 (by rw [hq, show q = gn from e]), (h3 j v l hv hl).2⟩, h4⟩
  have := h.nb.put k (.string ⟨s.toArray⟩)
  rwa [strs_set] at this
/-- A row is another one. -/
theorem Lw.setMay {w1 : World} {k : Nat} {v' : Value} {l' : List (List UInt8)} {S : Nat → Prop} (h : Lw B w gn gy now may) (hk : Kp S w w1) (hgn : ¬ S gn) (hgy : ¬ S gy) (hkl : k < may.length)
    (hS : ∀ (j : Nat) (v : Value) (g : Nat), j ≠ k → w.cell? ⟨gy, j, none⟩ = some v → v.ownBlock = some g → ¬ S g ∧ v'.ownBlock ≠ some g) (ho : w1.ownsRow B 9 1 v' l'.length (strs l')) (hv' : v'.ownBlock ≠ some gn) :
    Lw B (w1.setCell ⟨gy, k, none⟩ v') gn gy now (may.set k l') := by
  obtain ⟨mv, h1, h2, h3, h4⟩ := h.rows
  have hs := Kp.one w1 gy k v'
  have hgy1 : ∃ cs, Box w1 gy 24 cs := ⟨_, h1.kp hk hgy⟩
  have hcell : ∀ j v, mv[j]? = some v → w.cell? ⟨gy, j, none⟩ = some v := fun j v hv => by rw [h1.cell, List.getElem?_toArray, hv]
  have hne : ∀ {v : Value} {n : Nat} {xs : List Value}, w1.ownsRow B 9 1 v n xs → v.ownBlock ≠ some gy := fun ho e => by
    obtain ⟨cur, hc⟩ := own_block ho e
    obtain ⟨cs, hb⟩ := hgy1
    exact Box.type_ne (t := 9) hc hb (by decide) rfl
  refine ⟨h.bn, h.by_, (h.nb.kp hk hgn).kp hs h.ny, mv.set k v', ?_, by simp [h2], fun j v l hv hl => ?_, fun i j v u g hi hj hv hu => ?_⟩
  · have := (h1.kp hk hgy).put k v'
    rwa [List.setIfInBounds_toArray] at this
  · by_cases e : k = j
    · subst e
      have e1 : v = v' := by rw [List.getElem?_set_self (by omega)] at hv; exact (Option.some.inj hv).symm
      have e2 : l = l' := by rw [List.getElem?_set_self hkl] at hl; exact (Option.some.inj hl).symm
      subst e1; subst e2
      exact ⟨down_kp ho hs fun q hq e => hne ho (by rw [hq, show q = gy from e]), hv'⟩
    · rw [List.getElem?_set_ne e] at hv hl
      have ho1 := down_kp (h3 j v l hv hl).1 hk fun q hq => (hS j v q (fun e2 => e e2.symm) (hcell j v hv) hq).1
      exact ⟨down_kp ho1 hs fun q hq e => hne ho1 (by rw [hq, show q = gy from e]), (h3 j v l hv hl).2⟩
  · by_cases e : k = i
    · subst e
      by_cases e' : k = j
      · exact e'
      · rw [List.getElem?_set_self (by omega)] at hi
        rw [List.getElem?_set_ne e'] at hj
        cases hi
        exact absurd hv (hS j u g (fun e2 => e' e2.symm) (hcell j u hj) hu).2
    · rw [List.getElem?_set_ne e] at hi
      by_cases e' : k = j
      · subst e'
        rw [List.getElem?_set_self (by omega)] at hj
        cases hj
        exact absurd hu (hS i v g (fun e2 => e e2.symm) (hcell i v hi) hv).2
      · rw [List.getElem?_set_ne e'] at hj
        exact h4 i j v u g hi hj hv hu
theorem Lw.start (h : Lw B w gn gy now may) (t : Bool) (d : Dm) : Lw B w gn gy (nowIf t d now 0) (mayIf t d may 0) := by rw [nowIf_zero, mayIf_zero]; exact h
theorem dstr_eq (a b : List UInt8) : ((⟨a.toArray⟩ : ByteArray).toList == (⟨b.toArray⟩ : ByteArray).toList) = (a == b) := by rw [ByteArray.toList_eq, ByteArray.toList_eq]
theorem Lw.lt (h : Lw B w gn gy now may) : gn < w.heap.size ∧ gy < w.heap.size := by
  obtain ⟨mv, h1, _⟩ := h.rows
  exact ⟨h.nb.lt, h1.lt⟩
/-- A row of one text, in a new block. -/
theorem Lw.reset (h : Lw B w gn gy now may) (hB : B ≤ w.heap.size) (k : Nat) (hk : k < may.length) (s : List UInt8) :
    Lw B ((w.alloc (.cells #[.string ⟨s.toArray⟩] 9)).setCell ⟨gy, k, none⟩ (.slice (some ⟨w.heap.size, 0, none⟩) 1 1)) gn gy now (may.set k [s]) := by
  have hl := h.lt
  obtain ⟨mv, h1, h2, h3, h4⟩ := h.rows
  refine h.setMay (S := fun _ => False) ((Kp.refl _ w).alloc _) (fun h => h) (fun h => h) hk (fun j v g _ hc hg => ⟨fun h => h, fun e => ?_⟩) ?_ (by simp [Value.ownBlock]; omega)
  · simp [Value.ownBlock] at e
    have hj : mv[j]? = some v := by rw [h1.cell, List.getElem?_toArray] at hc; exact hc
    have hjl : j < may.length := by rw [← h2]; exact (List.getElem?_eq_some_iff.1 hj).1
    have := ((h3 j v _ hj (List.getElem?_eq_getElem hjl)).1.lt g hg).2
    omega
  · exact ⟨rfl, .inr ⟨w.heap.size, 1, _, rfl, hB, heap_alloc_new w _, Nat.le_refl _, by decide, rfl, rfl⟩⟩
/-- A row of one text more. -/
theorem Lw.app {w4 : World} {o : Obj} {v v' : Value} (h : Lw B w gn gy now may) (k : Nat) (hk : k < may.length) (s : List UInt8) (hc : w.cell? ⟨gy, k, none⟩ = some v)
    (ho : w4.ownsRow B 9 1 v' ((may.getD k []).length + 1) (strs (may.getD k []) ++ [.string ⟨s.toArray⟩])) (hg : (w.drew.alloc o).grownBy w4 v.ownBlock) (hat : ∀ g, v'.ownBlock = some g → v.ownBlock = some g ∨ g = w.heap.size + 1) :
    Lw B (w4.setCell ⟨gy, k, none⟩ v') gn gy now (may.set k (may.getD k [] ++ [s])) := by
  have hl := h.lt
  obtain ⟨mv, h1, h2, h3, h4⟩ := h.rows
  have hcell : ∀ j u, w.cell? ⟨gy, j, none⟩ = some u → mv[j]? = some u := fun j u hu => by rw [h1.cell, List.getElem?_toArray] at hu; exact hu
  have hml : ∀ j (hj : j < may.length), may[j]? = some may[j] := fun j hj => List.getElem?_eq_getElem hj
  have hv := hcell k v hc
  have hov := (h3 k v _ hv (hml k hk))
  have k4 : Kp (fun q => v.ownBlock = some q) w w4 := ((Kp.refl _ w).drew.alloc o).grown hg (fun q e => .inr e)
  refine h.setMay k4 hov.2 (fun e => ?_) hk (fun j u g hj hu hg' => ⟨fun e => hj (h4 j k u v g (hcell j u hu) hv hg' e), fun e => ?_⟩) (by
    rw [List.length_append, strs_snoc]
    exact ho) (fun e => ?_)
  · obtain ⟨cur, hc2⟩ := own_block hov.1 e
    exact Box.type_ne (t := 9) hc2 h1 (by decide) rfl
  · rcases hat g e with e2 | e2
    · exact hj (h4 j k u v g (hcell j u hu) hv hg' e2)
    · have hj2 := hcell j u hu
      have hjl : j < may.length := by rw [← h2]; exact (List.getElem?_eq_some_iff.1 hj2).1
      have := ((h3 j u _ hj2 (hml j hjl)).1.lt g hg').2
      omega
  · rcases hat gn e with e2 | e2
    · exact hov.2 e2
    · omega
end
/-- No row is long. -/
def Few (may : List (List (List UInt8))) (i : Nat) : Prop := ∀ r ∈ may, r.length ≤ i + 1
theorem Few.mono {may : List (List (List UInt8))} {i : Nat} (h : Few may i) : Few may (i + 1) := fun r hr => Nat.le_succ_of_le (h r hr)
theorem Few.ones (now : List (List UInt8)) (i : Nat) : Few (now.map fun s => [s]) i := fun r hr => by
  obtain ⟨s, _, rfl⟩ := List.mem_map.1 hr
  simp
theorem Few.look {may : List (List (List UInt8))} {i : Nat} (h : Few may i) (t : Bool) (d : Dm) (j : Nat) : Few (mayIf t d may j) i := fun r hr => by
  cases t
  · exact h r hr
  · have hr' : r ∈ mayTo d may j := hr
    rcases List.mem_append.1 hr' with hr | hr
    · exact Few.ones _ i r hr
    · exact h r (List.mem_of_mem_drop hr)
theorem Few.get {may : List (List (List UInt8))} {i : Nat} (h : Few may i) (k : Nat) : (may.getD k []).length ≤ i + 1 := by
  rcases Nat.lt_or_ge k may.length with hk | hk
  · have e : may.getD k [] = may[k] := by simp [List.getD, hk]
    rw [e]
    exact h _ (List.getElem_mem _)
  · have e : may.getD k [] = [] := by simp [List.getD, hk]
    rw [e]
    exact Nat.zero_le _
theorem Few.push {may : List (List (List UInt8))} {i : Nat} (h : Few may i) (k : Nat) (s : List UInt8) : Few (may.set k (may.getD k [] ++ [s])) (i + 1) := fun r hr => by
  rcases List.mem_or_eq_of_mem_set hr with hr | rfl
  · exact Nat.le_succ_of_le (h r hr)
  · have := h.get k
    simp only [List.length_append, List.length_singleton]
    omega
/-- What holds at each act's beginning. -/
def KRel (B : Nat) (w : World) (gn gy b n i : Nat) (wr : World) : Prop := ∃ d now may, Lw B wr gn gy now may ∧ Dsk (fun k => B ≤ k) wr b d ∧ KI d now may ∧ KN d now ∧ d.on.length = n ∧ d.wait.length ≤ i ∧ Few may i ∧ Kp (fun k => B ≤ k) w wr
/-- What holds behind an act, ahead of the look at the disk. -/
def KMid (B : Nat) (w : World) (gn gy b n i : Nat) (p : Bool) (wr : World) : Prop := ∃ d now may, Lw B wr gn gy now may ∧ Dsk (fun k => B ≤ k) wr b d ∧ KI d now may ∧ ((p && !d.power) = false → KN d now) ∧ d.on.length = n ∧ d.wait.length ≤ i ∧ Few may i ∧ Kp (fun k => B ≤ k) w wr

section
variable {B : Nat} {w W W2 : World} {gn gy b n i : Nat} {d : Dm} {now : List (List UInt8)} {may : List (List (List UInt8))}
/-- An act that turns nothing of what is. -/
theorem mid_alike {d' : Dm} (lw : Lw B W2 gn gy now may) (dk : Dsk (fun k => B ≤ k) W2 b d') (ki : KI d now may) (kn : KN d now) (h1 : d'.on = d.on) (h2 : d'.wait = d.wait) (h3 : d'.power = false → d.power = false) (hn : d.on.length = n) (hw : d.wait.length ≤ i) (hf : Few may i) (q : Kp (fun k => B ≤ k) w W2) :
    KMid B w gn gy b n (i + 1) d.power W2 :=
  ⟨d', now, may, lw, dk, ki.alike h1 h2 h3, fun _ => kn.alike h1 h2, by rw [h1]; exact hn, by rw [h2]; omega, hf.mono, q⟩
/-- The power goes. -/
theorem mid_lose (ok : d.ok) (l : List UInt8) (lw : Lw B W2 gn gy now may) (dk : Dsk (fun k => B ≤ k) W2 b (d.lose l)) (ki : KI d now may) (hp : d.power = true) (hn : d.on.length = n) (hf : Few may i) (q : Kp (fun k => B ≤ k) w W2) :
    KMid B w gn gy b n (i + 1) d.power W2 :=
  ⟨d.lose l, now, may, lw, dk, ki.lose ok l, fun h => by rw [hp] at h; exact absurd h (by simp [Dm.lose]), by simpa [Dm.lose, settleL_length] using hn, by simp [Dm.lose], hf.mono, q⟩
theorem Dsk.ok {F : Nat → Prop} (h : Dsk F W b d) : d.ok := by
  obtain ⟨_, _, _, h, _⟩ := h
  exact h.ok
end
theorem act_cells {v : World} {ga : Nat} {t : TypeId} {c0 c1 c2 c3 c4 : Value} (h : Box v ga t #[c0, c1, c2, c3, c4]) : v.cell? ⟨ga, 0, none⟩ = some c0 ∧ v.cell? ⟨ga, 1, none⟩ = some c1 ∧ v.cell? ⟨ga, 2, none⟩ = some c2 ∧ v.cell? ⟨ga, 3, none⟩ = some c3 ∧ v.cell? ⟨ga, 4, none⟩ = some c4 :=
  ⟨h.cell 0, h.cell 1, h.cell 2, h.cell 3, h.cell 4⟩
theorem Dsk.kp_own {F : Nat → Prop} {w w' : World} {b : Nat} {d : Dm} {base : Nat} {e : TypeId} {size n : Nat} {v : Value} {xs : List Value} (h : Dsk F w b d) (hk : Kp (fun q => v.ownBlock = some q) w w') (ho : w.ownsRow base e size v n xs) (he : LT e) : Dsk F w' b d := by
  obtain ⟨vs, vw, gm, h1, h2⟩ := h
  refine ⟨vs, vw, gm, h1.kp hk fun k hf e' => ?_, h2⟩
  obtain ⟨cur, hc⟩ := own_block ho e'
  rcases hf with rfl | e | e | rfl
  · exact Box.type_ne hc h1.box he.1 rfl
  · obtain ⟨cur', hc'⟩ := own_block h1.st e; exact Box.type_ne hc hc' he.2.1 rfl
  · obtain ⟨cur', hc'⟩ := own_block h1.wt e; exact Box.type_ne hc hc' he.2.2 rfl
  · obtain ⟨n, D, ⟨es, clock, hm, _⟩, _⟩ := h1.nm; rw [hm] at hc; cases hc
theorem Lw.may_cell2 {B : Nat} {w : World} {gn gy : Nat} {now : List (List UInt8)} {may : List (List (List UInt8))} (h : Lw B w gn gy now may) (k : Nat) (hk : k < may.length) : ∃ A cap mv, w.cell? ⟨gy, k, none⟩ = some (.slice A (may.getD k []).length cap) ∧ w.ownsRow B 9 1 (.slice A (may.getD k []).length cap) (may.getD k []).length (strs (may.getD k [])) ∧
    (Value.slice A (may.getD k []).length cap).ownBlock ≠ some gn ∧ (Value.slice A (may.getD k []).length cap).ownBlock ≠ some gy ∧ Box w gy 24 mv := by
  obtain ⟨mv, h1, h2, h3, h4⟩ := h.rows
  obtain ⟨A, cap, hc, _, ho⟩ := h.may_cell k hk
  have hv : mv[k]? = some (.slice A (may.getD k []).length cap) := by rw [h1.cell, List.getElem?_toArray] at hc; exact hc
  have hl : may[k]? = some (may.getD k []) := by simp [List.getD, hk]
  refine ⟨A, cap, _, hc, ho, (h3 k _ _ hv hl).2, fun e => ?_, h1⟩
  obtain ⟨cur, hc2⟩ := own_block ho e
  exact Box.type_ne (t := 9) hc2 h1 (by decide) rfl
/-- What sectors may be, while all is flushed. -/
def mayN (now : List (List UInt8)) (may : List (List (List UInt8))) (j : Nat) : List (List (List UInt8)) := (now.take j).map (fun s => [s]) ++ may.drop j
theorem mayN_zero (now : List (List UInt8)) (may : List (List (List UInt8))) : mayN now may 0 = may := by simp [mayN]
theorem mayN_length (now : List (List UInt8)) (may : List (List (List UInt8))) (j : Nat) (h : may.length = now.length) (hj : j ≤ now.length) : (mayN now may j).length = now.length := by simp [mayN, h]; omega
theorem mayN_next (now : List (List UInt8)) (may : List (List (List UInt8))) (j : Nat) (h : may.length = now.length) (hj : j < now.length) : (mayN now may j).set j [now.getD j []] = mayN now may (j + 1) := by
  have := upTo_set (now.map fun s => [s]) may j [now.getD j []] (by simpa using hj) (by simpa using h) (by simp [List.getD, hj])
  simpa [mayN, List.map_take] using this
theorem mayN_all (now : List (List UInt8)) (may : List (List (List UInt8))) (h : may.length = now.length) : mayN now may now.length = now.map fun s => [s] := by
  rw [mayN, List.take_length, List.drop_eq_nil_of_le (by omega), List.append_nil]
end Go.Proofs.YtfcljcikajaedaaDoor
