/- The blocks of a disk told by their types: what else lies in memory stays as it was. No condition. -/
import Derived.Test.YtfcljcikajaedaaGreatDoorMg13
namespace Go.Proofs.YtfcljcikajaedaaGreatDoor
open Go.RowKit Go.Maps

theorem Dsk.bothG {G : Nat → Prop} {w : World} {b : Nat} {d : Dm} (h : Dsk G w b d) : Dsk (fun k => G k ∧ DT w k) w b d := by
  obtain ⟨vs, vw, gm, h1, h2⟩ := h
  refine ⟨vs, vw, gm, h1, fun k hk => ⟨h2 k hk, ?_⟩⟩
  rcases hk with rfl | e | e | rfl
  · exact .inr (.inl ⟨_, _, h1.box⟩)
  · obtain ⟨cur, hc⟩ := own_block h1.st e; exact .inr (.inr (.inl ⟨_, _, hc⟩))
  · obtain ⟨cur, hc⟩ := own_block h1.wt e; exact .inr (.inr (.inr (.inl ⟨_, _, hc⟩)))
  · obtain ⟨n, D, ⟨es, clock, hm, _⟩, _⟩ := h1.nm; exact .inr (.inr (.inr (.inr ⟨_, _, hm⟩)))
theorem Dsk.off {F : Nat → Prop} {w w' : World} {b : Nat} {d : Dm} {g : Nat} {t : TypeId} {cs : Array Value} (h : Dsk F w b d) (hg : Box w g t cs) (ht : LT t) (hk : Kp (fun k => k = g) w w') : Dsk F w' b d := by
  obtain ⟨vs, vw, gm, h1, h2⟩ := h
  refine ⟨vs, vw, gm, h1.kp hk fun k hf e => ?_, h2⟩
  have e' : k = g := e
  subst e'
  rcases hf with rfl | e | e | rfl
  · exact Box.type_ne hg h1.box ht.1 rfl
  · obtain ⟨cur, hc⟩ := own_block h1.st e; exact Box.type_ne hg hc ht.2.1 rfl
  · obtain ⟨cur, hc⟩ := own_block h1.wt e; exact Box.type_ne hg hc ht.2.2 rfl
  · obtain ⟨n, D, ⟨es, clock, hm, _⟩, _⟩ := h1.nm; unfold Box at hg; rw [hm] at hg; cases hg
theorem DT.back {w W : World} {k : Nat} (hk : k < w.heap.size) (h : DT W k) (he : W.heap[k]? = w.heap[k]?) (hs : w.heap.size ≤ W.heap.size) : DT w k := by
  rcases h with h | h | h | h | h
  · exact absurd (Nat.lt_of_lt_of_le hk hs) (Nat.not_lt.2 h)
  all_goals (rw [he] at h)
  · exact .inr (.inl h)
  · exact .inr (.inr (.inl h))
  · exact .inr (.inr (.inr (.inl h)))
  · exact .inr (.inr (.inr (.inr h)))
theorem Kp.dtrans {G : Nat → Prop} {w W W1 : World} (h : Kp (fun k => G k ∧ DT w k) w W) (h1 : Kp (fun k => G k ∧ DT W k) W W1) : Kp (fun k => G k ∧ DT w k) w W1 :=
  ⟨h1.os.trans h.os, h1.tape.trans h.tape, h1.output.trans h.output, Nat.le_trans h.size h1.size, fun k hk hn => by
    have e := h.block k hk hn
    rw [h1.block k (Nat.lt_of_lt_of_le hk h.size) (fun hh => hn ⟨hh.1, hh.2.back hk e h.size⟩)]
    exact e⟩
theorem newG {G : Nat → Prop} {w W : World} (hG : ∀ k, w.heap.size ≤ k → G k) (hs : w.heap.size ≤ W.heap.size) : ∀ k, W.heap.size ≤ k → G k ∧ DT W k := fun k h => ⟨hG k (Nat.le_trans hs h), .inl h⟩
theorem Dsk.fit {F : Nat → Prop} {w : World} {b : Nat} {d : Dm} (h : Dsk F w b d) : ∃ F', Dsk F' w b d ∧ ∀ q, F' q → F q ∧ q < w.heap.size := by
  obtain ⟨vs, vw, gm, h1, h2⟩ := h
  exact ⟨_, ⟨vs, vw, gm, h1, fun _ e => e⟩, fun q e => ⟨h2 q e, h1.lt q e⟩⟩
end Go.Proofs.YtfcljcikajaedaaGreatDoor
