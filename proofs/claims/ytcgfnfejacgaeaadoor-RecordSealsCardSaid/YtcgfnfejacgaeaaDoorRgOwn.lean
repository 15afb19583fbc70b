/- A range over an iterator that keeps its state in cells of its own: the blocks that it turns are known by their types. No condition. -/
import Derived.RangeFuncNested
import Derived.RangeFuncRecord
import Derived.Test.YtcgfnfejacgaeaaDoorMem2
namespace Go.Proofs.YtcgfnfejacgaeaaDoor
open Go.RowKit

/-- No block has turned but cells of the types T, from B on. -/
def Far (T : TypeId → Prop) (B : Nat) (W W' : World) : Prop := Kp (fun k => B ≤ k ∧ ∃ (cs : Array Value) (t : TypeId) (fr : Nat × Nat), W.heap[k]? = some (Obj.cells cs t fr) ∧ T t) W W'
/-- No block has turned but, from B on, cells of the types T and what is no cells. -/
def Turn (T : TypeId → Prop) (B : Nat) (W W' : World) : Prop := Kp (fun k => B ≤ k ∧ ∀ (cs : Array Value) (t : TypeId) (fr : Nat × Nat), W.heap[k]? = some (Obj.cells cs t fr) → T t) W W'
section
variable {T : TypeId → Prop} {B : Nat} {W W' W1 : World}
theorem Far.turn {B' : Nat} (h : Far T B W W') (hB : B' ≤ B) : Turn T B' W W' := Kp.mono h fun k _ ⟨h1, cs, t, fr, h2, h3⟩ => ⟨Nat.le_trans hB h1, fun cs' t' fr' e => by
  rw [h2] at e
  injection e with e
  injection e with _ e
  exact e ▸ h3⟩
theorem Far.still {B : Nat} (h : Kp (fun _ => False) W W') : Far T B W W' := Kp.mono h fun _ _ e => e.elim
theorem Turn.still {B : Nat} (h : Kp (fun _ => False) W W') : Turn T B W W' := Kp.mono h fun _ _ e => e.elim
/-- One block of a type of T. -/
theorem Far.one {b : Nat} {t : TypeId} {cs : Array Value} (hb : Box W b t cs) (hT : T t) (hB : B ≤ b) (h : Kp (fun k => k = b) W W') : Far T B W W' := Kp.mono h fun k _ e => by
  subst e
  exact ⟨hB, cs, t, _, hb, hT⟩
theorem Far.obj {k : Nat} {o : Obj} (h : Far T B W W') (hk : W.heap[k]? = some o) (ho : o.isCells = false) : W'.heap[k]? = some o := by
  refine (Kp.block h k (Array.getElem?_eq_some_iff.1 hk).1 ?_).trans hk
  rintro ⟨_, cs, t, fr, e, _⟩
  rw [hk] at e
  cases e
  cases ho
theorem Turn.put {l : Nat} {o : Obj} (o' : Obj) (hl : W.heap[l]? = some o) (ho : o.isCells = false) (hB : B ≤ l) : Turn T B W (W.putObj l o') :=
  (Kp.refl _ W).grown (grownBy_putObj' W l o') fun k e => by
    cases e
    refine .inr ⟨hB, fun cs t fr e => ?_⟩
    rw [hl] at e
    cases e
    cases ho
theorem Turn.box {g : Nat} {t : TypeId} {cs : Array Value} (h : Turn T B W W') (hb : Box W g t cs) (hT : ¬ T t) : Box W' g t cs :=
  hb.kp h fun e => hT (e.2 _ _ _ hb)
theorem Turn.own {base : Nat} {e : TypeId} {size n : Nat} {v : Value} {xs : List Value} (h : Turn T B W W') (ho : W.ownsRow base e size v n xs) (hT : ¬ T e) : W'.ownsRow base e size v n xs := by
  refine ⟨ho.1, ?_⟩
  rcases ho.2 with h2 | ⟨g, cap, cur, rfl, hb, hg, h3⟩
  · exact .inl h2
  · have hg' : Box W g e cur := hg
    exact .inr ⟨g, cap, cur, rfl, hb, h.box hg' hT, h3⟩
theorem Turn.kp {w : World} (h : Turn T B W W') (hk : Kp (fun _ => False) w W) (hB : w.heap.size ≤ B) : Kp (fun _ => False) w W' :=
  hk.trans_new h fun _ e => .inl (Nat.le_trans hB e.1)
/-- What a round keeps: cells of the types T, and the heap's size. -/
def Near (T : TypeId → Prop) (W W' : World) : Prop := W.heap.size ≤ W'.heap.size ∧ ∀ (k : Nat) (cs : Array Value) (t : TypeId) (fr : Nat × Nat), W.heap[k]? = some (Obj.cells cs t fr) → T t → W'.heap[k]? = some (Obj.cells cs t fr)
theorem Near.trans (h : Near T W W1) (k : Near T W1 W') : Near T W W' := ⟨Nat.le_trans h.1 k.1, fun i cs t fr e hT => k.2 i cs t fr (h.2 i cs t fr e hT) hT⟩
theorem Near.put {l : Nat} {o : Obj} (o' : Obj) (hl : W.heap[l]? = some o) (ho : o.isCells = false) : Near T W (W.putObj l o') := by
  refine ⟨by simp [World.putObj], fun k cs t fr e hT => ?_⟩
  refine (World.putObj_heap_other ?_).trans e
  rintro rfl
  rw [hl] at e
  cases e
  cases ho
theorem Near.of {S : Nat → Prop} (h : Kp S W W') (hs : ∀ (k : Nat) (cs : Array Value) (t : TypeId) (fr : Nat × Nat), W.heap[k]? = some (Obj.cells cs t fr) → S k → ¬ T t) : Near T W W' :=
  ⟨h.size, fun k cs t fr e hT => (h.block k (Array.getElem?_eq_some_iff.1 e).1 fun hS => hs k cs t fr e hS hT).trans e⟩
theorem Near.box {g : Nat} {t : TypeId} {cs : Array Value} (h : Near T W W') (hb : Box W g t cs) (hT : T t) : Box W' g t cs := h.2 _ _ _ _ hb hT
end

/-- An iterator's contract: in whatever later world it is called, at whatever loop, it turns cells of the types T alone, of blocks that it has made; its rounds keep Kb. -/
def SeqC {α : Type} (F : Fence) (n : Nat) (P : Program) (g : Nat) (lb : Array Value) (encs : α → Array Value) (T : TypeId → Prop) (Kb : World → World → Prop) (S Sp : List α → Prop) (N : Nat) (w : World) : Prop :=
  ∀ (l : Nat) (J Jx : List α → World → Prop) (W : World), Kp (fun _ => False) w W → (∀ s A A', J s A → Far T W.heap.size A A' → J s A') → (∀ s A A', Jx s A → Far T W.heap.size A A' → Jx s A') →
    (∀ pre x W1, J pre W1 → pre.length < N → YieldAt F (n - 1) P l (encs x) W1 fun e W' => (e = .returned (.bool true) ∧ J (pre ++ [x]) W' ∧ Kb W1 W') ∨ (e = .returned (.bool false) ∧ Jx (pre ++ [x]) W')) →
    J [] W →
    CallsIn F n P g (#[.func (.yield l) #[] #[]] ++ lb) W fun e W' => (∃ v, e = .returned v) ∧ ((∃ xs, S xs ∧ J xs W') ∨ (∃ pre, Sp pre ∧ Jx pre W'))

section
variable {F : Fence} {n : Nat} {P : Program} {α : Type}
theorem wpIn_range_own {g : Operand} {ps : Array Tmp} {assign body : Code} {Q : Exit → Act → World → Prop} {a : Act} {w : World} {T : TypeId → Prop} {Kb : World → World → Prop} {S Sp : List α → Prop} {N gf : Nat} {lb : Array Value} {encs : α → Array Value}
    (hro : F.round = none) (h1 : 1 ≤ n) (hg : a.eval g = .func (.func gf) #[] lb) (hF : F.fn gf) (eg : ∀ args w, (callFunc gf args).run P w = .ok (.enter gf args) w)
    (hseq : SeqC F (n - 1) P gf lb encs T Kb S Sp N w) (hKt : ∀ {A B C : World}, Kb A B → Kb B C → Kb A C)
    (hKb : ∀ (W : World) (l : Nat) (o o' : Obj), W.heap[l]? = some o → o.isCells = false → Kb W (W.putObj l o')) (hps : ∀ x, (encs x).size = ps.size)
    (I : List α → World → Prop) (Ix : Code → List α → World → Prop) (Ax : α → Act → World → Prop)
    (hI : ∀ s A A', I s A → Turn T w.heap.size A A' → I s A') (hIx : ∀ c s A A', Ix c s A → Turn T w.heap.size A A' → Ix c s A') (hAx : ∀ x a' A A', Ax x a' A → Turn T w.heap.size A A' → Ax x a' A') (h0 : I [] w)
    (hassign : ∀ (l : Nat) (pre : List α) (x : α) (W : World) (K : Act → World → Prop), I pre W → (∀ a' W', KeepsFrom w.heap.size W W' → Kb W W' → I pre W' → Ax x a' W' → K a' W') →
      assign.wpIn (F.inRound l) (n - 1 - 1) P (Exit.then K (fun _ _ _ => False)) { tmps := (ps.zip (encs x)).foldl (fun t (p, v) => t.setIfInBounds p v) a.tmps, defers := [] } W)
    (hbody : ∀ (l : Nat) (pre : List α) (x : α) (a' : Act) (W : World), I pre W → Ax x a' W → pre.length < N → body.wpIn (F.inRound l) (n - 1 - 1) P (ownPostG w.heap.size Kb I Ix (pre ++ [x]) W) a' W)
    (hdone : ∀ (D : Nat) (xs : List α) (W : World), w.heap.size ≤ D → S xs → I xs W → W.heap[D]? = some (.deferred (some [])) → Q .normal { a with defers := { target := .collected D, args := #[] } :: a.defers } W)
    (hstop : ∀ (D : Nat) (c : Code) (pre : List α) (W : World), w.heap.size ≤ D → Sp pre → Ix c pre W → W.heap[D]? = some (.deferred (some [])) → c.wpIn F n P Q { a with defers := { target := .collected D, args := #[] } :: a.defers } W) :
    (Code.rangeFunc g ps assign body).wpIn F n P Q a w := by
  refine wpIn_rangeFunc fun fn hfn => ?_
  rw [hro]
  obtain ⟨rc, hrc⟩ : ∃ rc : LoopState → Option Code → Loop, rc = fun st pe => { state := st, pending := pe, fn, tmps := a.tmps, params := ps, assign, body, defers := w.heap.size } := ⟨_, rfl⟩
  obtain ⟨B, hB⟩ : ∃ B, B = w.heap.size := ⟨_, rfl⟩
  rw [← hB] at hI hIx hAx hassign hbody hdone hstop
  /- what lies in the two blocks that the statement lays -/
  obtain ⟨V, hV, hk0, hL0, hD0⟩ : ∃ V, V = (w.alloc (.deferred (some []))).alloc (.loop (rc .ready none)) ∧ Kp (fun _ => False) w V ∧ V.heap[B + 1]? = some (.loop (rc .ready none)) ∧ V.heap[B]? = some (.deferred (some [])) := by
    refine ⟨_, rfl, ((Kp.refl _ w).alloc _).alloc _, ?_, ?_⟩
    · have := World.alloc_heap_new (w.alloc (.deferred (some []))) (.loop (rc .ready none))
      rwa [World.size_alloc, ← hB] at this
    · rw [hB]
      exact (Below.heap_alloc _ _ _ (by simp)).trans (World.alloc_heap_new w _)
  have hVs : B + 1 < V.heap.size := (Array.getElem?_eq_some_iff.1 hL0).1
  refine ⟨B + 1, [{ target := .collected B, args := #[] }], V, { target := .fn (.func gf) lb, args := #[.func (.yield (B + 1)) #[] #[]] }, V, gf, #[.func (.yield (B + 1)) #[] #[]] ++ lb, V, ?_, ?_, ?_, ?_, fun _ => h1, ?_⟩
  · rw [hV, hrc, hB]
    exact run_enterLoop_outer _ _ _ _ _
  · simp only [resolve, hg]
    simp [go_sem]
  · intro f' hf'
    simp [Target.leads] at hf'
    subst hf'
    exact hF
  · simp [invoke, go_sem, eg]
  · refine (hseq (B + 1) (fun pre W => I pre W ∧ W.heap[B + 1]? = some (.loop (rc .ready none)) ∧ W.heap[B]? = some (.deferred (some [])))
      (fun pre W => ∃ c, Ix c pre W ∧ W.heap[B + 1]? = some (.loop (rc .done (some c))) ∧ W.heap[B]? = some (.deferred (some []))) V hk0
      (fun s A A' ⟨i, l, d⟩ hf => ⟨hI s A A' i (Far.turn hf (by omega)), Far.obj hf l rfl, Far.obj hf d rfl⟩)
      (fun s A A' ⟨c, i, l, d⟩ hf => ⟨c, hIx c s A A' i (Far.turn hf (by omega)), Far.obj hf l rfl, Far.obj hf d rfl⟩)
      ?_ ⟨hI _ _ _ h0 (Turn.still hk0), hL0, hD0⟩).mono ?_
    · rintro pre x W ⟨hi, hl, hd⟩ hlen
      have hy := run_yield (P := P) (args := encs x) hl (by rw [hrc]; exact hps x)
      rw [hrc] at hy
      refine ⟨fn, _, assign, body, hy, roundIn_of_wpIn hfn (hassign _ pre x W _ hi fun a' Wa hkf hkb hia hax => ?_)⟩
      have hla := hkf.same _ _ (by omega) hl rfl
      have hda := hkf.same _ _ (Nat.le_refl _) hd rfl
      have hlt : B + 1 < Wa.heap.size := (Array.getElem?_eq_some_iff.1 hla).1
      refine ⟨_, run_beginRound hla (by rw [hrc]), ?_⟩
      obtain ⟨busy, hbusy⟩ : ∃ b : Loop, b = { rc .ready none with state := .busy } := ⟨_, rfl⟩
      rw [← hbusy]
      obtain ⟨Wb, hWb⟩ : ∃ Wb, Wb = Wa.putObj (B + 1) (.loop busy) := ⟨_, rfl⟩
      rw [← hWb]
      have hlb : Wb.heap[B + 1]? = some (.loop busy) := by rw [hWb]; exact World.putObj_heap_same hlt
      have hdb : Wb.heap[B]? = some (.deferred (some [])) := by rw [hWb]; exact (World.putObj_heap_other (by omega)).trans hda
      have hKab : Kb W Wb := hKt hkb (by rw [hWb]; exact hKb _ _ _ _ hla rfl)
      have hTab : Turn T B Wa Wb := by rw [hWb]; exact Turn.put _ hla rfl (by omega)
      refine wpIn_mono (hbody _ pre x a' _ (hI _ _ _ hia hTab) (hAx _ _ _ _ hax hTab) hlen) ?_
      have fin : ∀ (jump : Option Code) (W3 : World), KeepsFrom B Wb W3 → ∃ W4, (Instr.endRound (B + 1) jump).run P W3 = .ok (.bool jump.isNone) W4 ∧ Turn T B W3 W4 ∧ Kb W3 W4 ∧ W4.heap[B + 1]? = some (.loop (rc (if jump.isNone then .ready else .done) jump)) ∧ W4.heap[B]? = some (.deferred (some [])) := by
        intro jump W3 h3
        have l3 := h3.same _ _ (by omega) hlb rfl
        have d3 := h3.same _ _ (Nat.le_refl _) hdb rfl
        have hr := run_endRound (P := P) jump l3
        rw [hbusy, hrc] at hr
        refine ⟨_, hr, Turn.put _ l3 rfl (by omega), hKb _ _ _ _ l3 rfl, ?_, (World.putObj_heap_other (by omega)).trans d3⟩
        rw [hrc]
        exact World.putObj_heap_same (Array.getElem?_eq_some_iff.1 l3).1
      have out : ∀ (c : Code) (W3 : World), KeepsFrom B Wb W3 → Ix c (pre ++ [x]) W3 → ∃ W4, (Instr.endRound (B + 1) (some c)).run P W3 = .ok (.bool false) W4 ∧ ∃ c, Ix c (pre ++ [x]) W4 ∧ W4.heap[B + 1]? = some (.loop (rc .done (some c))) ∧ W4.heap[B]? = some (.deferred (some [])) := by
        intro c W3 h3 hi3
        obtain ⟨W4, hr, ht, _, hl4, hd4⟩ := fin (some c) W3 h3
        exact ⟨W4, hr, c, hIx _ _ _ _ hi3 ht, hl4, hd4⟩
      rintro e a3 W3 hp
      rcases e with _ | id | t | _ | ch | _
      all_goals first
        | (obtain ⟨h3, hk3, hi3⟩ := hp
           obtain ⟨W4, hr, ht, hk4, hl4, hd4⟩ := fin none W3 h3
           exact ⟨_, _, hr, .inl ⟨rfl, ⟨hI _ _ _ hi3 ht, hl4, hd4⟩, hKt hKab (hKt hk3 hk4)⟩⟩)
        | (obtain ⟨W4, hr, h4⟩ := out _ W3 hp.1 hp.2
           exact ⟨_, _, hr, .inr ⟨rfl, h4⟩⟩)
        | exact hp.elim
    · rintro e W2 ⟨⟨v, rfl⟩, h⟩
      rcases h with ⟨xs, hS, hi, hl, hd⟩ | ⟨pre, hSp, c, hi, hl, hd⟩
      · have hr := run_endLoop (P := P) hl (by rw [hrc]; simp)
        rw [hrc] at hr
        exact ⟨none, _, hr, hdone _ xs _ (Nat.le_refl _) hS (hI _ _ _ hi (Turn.put _ hl rfl (by omega))) ((World.putObj_heap_other (by omega)).trans hd)⟩
      · have hr := run_endLoop (P := P) hl (by rw [hrc]; simp)
        rw [hrc] at hr
        exact ⟨some c, _, hr, hstop _ c pre _ (Nat.le_refl _) hSp (hIx _ _ _ _ hi (Turn.put _ hl rfl (by omega))) ((World.putObj_heap_other (by omega)).trans hd)⟩
end
end Go.Proofs.YtcgfnfejacgaeaaDoor
