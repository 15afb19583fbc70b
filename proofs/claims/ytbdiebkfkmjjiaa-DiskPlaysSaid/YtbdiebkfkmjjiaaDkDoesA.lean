/- The memory of an act in both disks: the program's and the document's own. No condition. -/
import Derived.Test.YtbdiebkfkmjjiaaDkCopy
namespace Go.Proofs.Ytbdiebkfkmjjiaa
open Go.RowKit Go.Maps

/-- What a disk is behind an act. -/
def Dm.next (d : Dm) (x : Ac) : Dm :=
  if x.d = 0 then d.flushS.1 else if x.d = 1 then (d.fuseS x.n x.keep).1 else if x.d = 2 then (d.crashS x.keep).1 else if x.d = 3 then d.startS else if x.d = 4 then d else (d.writeS x.n (dataL x.c x.short)).1
theorem Dsk.bothG {G : Nat → Prop} {w : World} {b : Nat} {d : Dm} (h : Dsk G w b d) : Dsk (fun k => G k ∧ DT w k) w b d := by
  obtain ⟨vs, vw, gm, h1, h2⟩ := h
  refine ⟨vs, vw, gm, h1, fun k hk => ⟨h2 k hk, ?_⟩⟩
  rcases hk with rfl | e | e | rfl
  · exact .inr (.inl ⟨_, _, h1.box⟩)
  · obtain ⟨cur, hc⟩ := own_block h1.st e; exact .inr (.inr (.inl ⟨_, _, hc⟩))
  · obtain ⟨cur, hc⟩ := own_block h1.wt e; exact .inr (.inr (.inr (.inl ⟨_, _, hc⟩)))
  · obtain ⟨n, D, ⟨es, clock, hm, _⟩, _⟩ := h1.nm; exact .inr (.inr (.inr (.inr ⟨_, _, hm⟩)))
theorem Dsk.off {F : Nat → Prop} {w w' : World} {b : Nat} {d : Dm} {g : Nat} {t : TypeId} {cs : Array Value} (h : Dsk F w b d) (hg : Box w g t cs) (ht : LT t) (hk : Kp (fun k => k = g) w w') : Dsk F w' b d := by
  obtain ⟨vs, vw, gm, h1, h2⟩ := h
  refine ⟨vs, vw, gm, h1.kp hk fun k hf e => ?_, h2⟩
  have e' : k = g := e
  subst e'
  rcases hf with rfl | e | e | rfl
  · exact Box.type_ne hg h1.box ht.1 rfl
  · obtain ⟨cur, hc⟩ := own_block h1.st e; exact Box.type_ne hg hc ht.2.1 rfl
  · obtain ⟨cur, hc⟩ := own_block h1.wt e; exact Box.type_ne hg hc ht.2.2 rfl
  · obtain ⟨n, D, ⟨es, clock, hm, _⟩, _⟩ := h1.nm; unfold Box at hg; rw [hm] at hg; cases hg
theorem DT.back {w W : World} {k : Nat} (hk : k < w.heap.size) (h : DT W k) (he : W.heap[k]? = w.heap[k]?) (hs : w.heap.size ≤ W.heap.size) : DT w k := by
  rcases h with h | h | h | h | h
  · exact absurd (Nat.lt_of_lt_of_le hk hs) (Nat.not_lt.2 h)
  all_goals (rw [he] at h)
  · exact .inr (.inl h)
  · exact .inr (.inr (.inl h))
  · exact .inr (.inr (.inr (.inl h)))
  · exact .inr (.inr (.inr (.inr h)))
theorem Kp.dtrans {G : Nat → Prop} {w W W1 : World} (h : Kp (fun k => G k ∧ DT w k) w W) (h1 : Kp (fun k => G k ∧ DT W k) W W1) : Kp (fun k => G k ∧ DT w k) w W1 :=
  ⟨h1.os.trans h.os, h1.tape.trans h.tape, h1.output.trans h.output, Nat.le_trans h.size h1.size, fun k hk hn => by
    have e := h.block k hk hn
    rw [h1.block k (Nat.lt_of_lt_of_le hk h.size) (fun hh => hn ⟨hh.1, hh.2.back hk e h.size⟩)]
    exact e⟩
/-- The zero cells of the document's disk. -/
def zerR : Array Value := #[.slice none 0 0, .slice none 0 0, .bool false, .int .i64 0, .string ⟨#[]⟩, .int .u64 0]
/-- The memory, while an act is done. -/
structure Sd (G : Nat → Prop) (w W : World) (b : Nat) (x : Ac) (cs : Array Value) (D E : Dm) (va vb : Value) : Prop where
  b0 : Box W w.heap.size 33 cs
  b1 : Box W (w.heap.size + 1) 39 x.cells
  b2 : Box W (w.heap.size + 2) 33 zerR
  dk : Dsk G W b D
  rf : Rf W va vb E
  kp : Kp (fun k => G k ∧ DT w k) w W
section
variable {G : Nat → Prop} {w W W1 : World} {b : Nat} {x : Ac} {cs : Array Value} {D D' E E' : Dm} {va vb va' vb' : Value}
theorem Sd.disk (h : Sd G w W b x cs D E va vb) (hd : Dsk (fun k => G k ∧ DT W k) W1 b D') (hk : Kp (fun k => G k ∧ DT W k) W W1) : Sd G w W1 b x cs D' E va vb where
  b0 := h.b0.kp hk fun e => not_DT h.b0 ⟨by decide, by decide, by decide⟩ e.2
  b1 := h.b1.kp hk fun e => not_DT h.b1 ⟨by decide, by decide, by decide⟩ e.2
  b2 := h.b2.kp hk fun e => not_DT h.b2 ⟨by decide, by decide, by decide⟩ e.2
  dk := hd.mono fun _ e => e.1
  rf := h.rf.kp hk fun k cs fr e hh => by
    rcases e with e | e
    · exact not_DT e ⟨by decide, by decide, by decide⟩ hh.2
    · exact not_DT e ⟨by decide, by decide, by decide⟩ hh.2
  kp := h.kp.dtrans hk
theorem Sd.still (h : Sd G w W b x cs D E va vb) (hk : Kp (fun _ => False) W W1) : Sd G w W1 b x cs D E va vb where
  b0 := h.b0.kp hk fun e => e
  b1 := h.b1.kp hk fun e => e
  b2 := h.b2.kp hk fun e => e
  dk := h.dk.still hk
  rf := h.rf.still hk
  kp := h.kp.trans hk.of_false
theorem Sd.ref (h : Sd G w W b x cs D E va vb) (hr : Rf W1 va' vb' E') (hk : Kp (fun _ => False) W W1) : Sd G w W1 b x cs D E' va' vb' where
  b0 := h.b0.kp hk fun e => e
  b1 := h.b1.kp hk fun e => e
  b2 := h.b2.kp hk fun e => e
  dk := h.dk.still hk
  rf := hr
  kp := h.kp.trans hk.of_false
theorem Sd.put {cs' : Array Value} (h : Sd G w W b x cs D E va vb) (hb : Box W1 w.heap.size 33 cs') (hk : Kp (fun k => k = w.heap.size) W W1) : Sd G w W1 b x cs' D E va vb where
  b0 := hb
  b1 := h.b1.kp hk fun e => by omega
  b2 := h.b2.kp hk fun e => by omega
  dk := h.dk.off h.b0 ⟨by decide, by decide, by decide⟩ hk
  rf := h.rf.store h.b0 hk
  kp := h.kp.trans_new hk fun k e => .inl (by omega)
theorem Sd.drew (h : Sd G w W b x cs D E va vb) : Sd G w W.drew b x cs D E va vb := h.still (Kp.refl _ W).drew
theorem Sd.fin (h : Sd G w W b x cs D E va vb) (hk : Kp (fun k => k = w.heap.size + 2) W W1) : Rf W1 va vb E ∧ Dsk G W1 b D ∧ Kp (fun k => G k ∧ DT w k) w W1 :=
  ⟨h.rf.store h.b2 hk, h.dk.off h.b2 ⟨by decide, by decide, by decide⟩ hk, h.kp.trans_new hk fun k e => .inl (by omega)⟩
theorem rcs_cells {v : World} {g : Nat} {t : TypeId} {d : Dm} {vo vw : Value} (h : Box v g t (rcs d vo vw)) : v.cell? ⟨g, 0, none⟩ = some vo ∧ v.cell? ⟨g, 1, none⟩ = some vw ∧ v.cell? ⟨g, 2, none⟩ = some (.bool (!d.power)) ∧ v.cell? ⟨g, 3, none⟩ = some (.int .i64 (leftZ d)) ∧ v.cell? ⟨g, 4, none⟩ = some (.string ⟨d.keep.toArray⟩) ∧ v.cell? ⟨g, 5, none⟩ = some (.int .u64 d.acts) :=
  ⟨h.cell 0, h.cell 1, h.cell 2, h.cell 3, h.cell 4, h.cell 5⟩
theorem Sd.start {d : Dm} {vo vw : Value} (hD : Dsk G w b d) (hr : Rf w vo vw d) (x : Ac) : ∃ W, W = ((w.alloc (.cells (rcs d vo vw) 33)).alloc (.cells x.cells 39)).alloc (.cells zerR 33) ∧ Sd G w W b x (rcs d vo vw) d d vo vw := by
  have k : Kp (fun _ => False) w (((w.alloc (.cells (rcs d vo vw) 33)).alloc (.cells x.cells 39)).alloc (.cells zerR 33)) := (((Kp.refl _ w).alloc _).alloc _).alloc _
  refine ⟨_, rfl, ⟨((Box.new w _ _).alloc _).alloc _, ?_, ?_, hD.still k, hr.still k, k.of_false⟩⟩
  · have := (Box.new (w.alloc (.cells (rcs d vo vw) 33)) 39 x.cells).alloc (.cells zerR 33)
    rwa [World.size_alloc] at this
  · have := Box.new ((w.alloc (.cells (rcs d vo vw) 33)).alloc (.cells x.cells 39)) 33 zerR
    rwa [World.size_alloc, World.size_alloc] at this
end
/-- The blocks that a disk may turn: its own, and new ones. -/
theorem newG {G : Nat → Prop} {w W : World} (hG : ∀ k, w.heap.size ≤ k → G k) (hs : w.heap.size ≤ W.heap.size) : ∀ k, W.heap.size ≤ k → G k ∧ DT W k := fun k h => ⟨hG k (Nat.le_trans hs h), .inl h⟩
end Go.Proofs.Ytbdiebkfkmjjiaa
