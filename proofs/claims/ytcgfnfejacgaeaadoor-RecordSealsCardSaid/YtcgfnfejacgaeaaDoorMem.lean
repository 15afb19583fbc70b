/- Plain words for memory, used by the proofs of this seat: bytes as cells, a block that is known whole, a slice that reads as bytes, and what a call leaves as it was. No condition. -/
import Derived.WalkKit
import Derived.WalkSpells
import Derived.WalkLawsBesides
import Derived.Outline
import Derived.Deep.QuietTactic
import Derived.BigQuiet
import Derived.Lib.Hide
import Derived.Laws.EntriesVeiled
namespace Go.Proofs.YtcgfnfejacgaeaaDoor
open Go.RowKit

/-- Bytes, a cell each. -/
def bcs (l : List UInt8) : List Value := l.map fun b => .int .u8 b.toNat

theorem bcs_length (l : List UInt8) : (bcs l).length = l.length := by simp [bcs]
theorem bcs_append (l m : List UInt8) : bcs (l ++ m) = bcs l ++ bcs m := by simp [bcs]
theorem bcs_get (l : List UInt8) (j : Nat) : (bcs l)[j]? = (l[j]?).map fun b => .int .u8 b.toNat := by simp [bcs]
theorem bcs_one (l : List UInt8) : ∀ u ∈ bcs l, u.oneCell' = true := by
  intro u hu
  obtain ⟨_, _, rfl⟩ := List.mem_map.1 hu
  rfl

/-- Block g is just these cells, none of them frozen. -/
def Box (w : World) (g : Nat) (t : TypeId) (cs : Array Value) : Prop := w.heap[g]? = some (.cells cs t (0, 0))

/-- What a call leaves: the streams, and each block that was there, but for those of S. -/
structure Kp (S : Nat → Prop) (w w' : World) : Prop where
  os : w'.os = w.os
  tape : w'.tape = w.tape
  output : w'.output = w.output
  size : w.heap.size ≤ w'.heap.size
  block : ∀ k, k < w.heap.size → ¬ S k → w'.heap[k]? = w.heap[k]?

section
variable {S S' : Nat → Prop} {w w' w1 w2 : World}

theorem Kp.refl (S : Nat → Prop) (w : World) : Kp S w w := ⟨rfl, rfl, rfl, Nat.le_refl _, fun _ _ _ => rfl⟩
theorem Kp.trans (h : Kp S w w1) (k : Kp S w1 w2) : Kp S w w2 :=
  ⟨k.os.trans h.os, k.tape.trans h.tape, k.output.trans h.output, Nat.le_trans h.size k.size,
    fun i hi hs => (k.block i (Nat.lt_of_lt_of_le hi h.size) hs).trans (h.block i hi hs)⟩
theorem Kp.mono (h : Kp S w w') (hs : ∀ k, k < w.heap.size → S k → S' k) : Kp S' w w' :=
  ⟨h.os, h.tape, h.output, h.size, fun k hk hn => h.block k hk fun e => hn (hs k hk e)⟩
theorem Kp.drew (h : Kp S w w') : Kp S w w'.drew := ⟨h.os, h.tape, h.output, h.size, h.block⟩
theorem Kp.drewN (h : Kp S w w') (n : Nat) : Kp S w (w'.drewN n) := ⟨h.os, h.tape, h.output, h.size, h.block⟩
theorem Kp.alloc (h : Kp S w w') (o : Obj) : Kp S w (w'.alloc o) :=
  h.trans ⟨rfl, rfl, rfl, by simp, fun k hk _ => Below.heap_alloc _ _ _ hk⟩
theorem Kp.setCell (h : Kp S w w') {p : Addr} (hp : w.heap.size ≤ p.block ∨ S p.block) (u : Value) : Kp S w (w'.setCell p u) :=
  ⟨h.os, h.tape, h.output, by have := h.size; simpa [World.setCell] using this, fun k hk hs => by
    rw [Below.heap_setCell _ _ _ _ (by rintro rfl; rcases hp with hp | hp; omega; exact hs hp)]
    exact h.block k hk hs⟩
theorem Kp.one (w : World) (b i : Nat) (u : Value) : Kp (fun k => k = b) w (w.setCell ⟨b, i, none⟩ u) := (Kp.refl (fun k => k = b) w).setCell (p := ⟨b, i, none⟩) (.inr rfl) u
theorem Kp.grown (h : Kp S w w1) {row : Option Nat} (hg : w1.grownBy w2 row) (hr : ∀ k, row = some k → w.heap.size ≤ k ∨ S k) : Kp S w w2 :=
  ⟨hg.os.trans h.os, hg.tape.trans h.tape, hg.output.trans h.output, Nat.le_trans h.size hg.size, fun k hk hs => by
    rw [hg.block k (Nat.lt_of_lt_of_le hk h.size) (by intro e; rcases hr k e.symm with hp | hp; omega; exact hs hp)]
    exact h.block k hk hs⟩
theorem Kp.fresh (h : Kp (fun k => w.heap.size ≤ k) w w') (S : Nat → Prop) : Kp S w w' := h.mono fun k hk hs => by omega
/-- Blocks that the first step made may be turned by the second one. -/
theorem Kp.trans_new (h : Kp S w w1) (k : Kp S' w1 w2) (hs : ∀ b, S' b → w.heap.size ≤ b ∨ S b) : Kp S w w2 :=
  ⟨k.os.trans h.os, k.tape.trans h.tape, k.output.trans h.output, Nat.le_trans h.size k.size,
    fun i hi hn => (k.block i (Nat.lt_of_lt_of_le hi h.size) (fun e => by rcases hs i e with hp | hp; omega; exact hn hp)).trans (h.block i hi hn)⟩
theorem Kp.below {B : Nat} (h : Kp S w w') (hB : B ≤ w.heap.size) (hs : ∀ k, S k → B ≤ k) : Below B w w' :=
  ⟨h.os, h.tape, h.output, h.size, fun k hk => h.block k (by omega) fun e => by have := hs k e; omega⟩
theorem Kp.cell (h : Kp S w w') {p : Addr} (hp : p.block < w.heap.size) (hn : ¬ S p.block) : w'.cell? p = w.cell? p :=
  World.cell?_of_block (w := w) (h.block p.block hp hn)
theorem Kp.frozen (h : Kp S w w') {p : Addr} (hp : p.block < w.heap.size) (hn : ¬ S p.block) : w'.frozen? p = w.frozen? p :=
  World.frozen?_of_block (w := w) (h.block p.block hp hn)
theorem Kp.of_below {B : Nat} (h : Below B w w') : Kp (fun k => B ≤ k) w w' :=
  ⟨h.os, h.tape, h.output, h.size, fun k _ hn => h.block k (by omega)⟩
end

section
variable {S : Nat → Prop} {w w' : World} {g : Nat} {t : TypeId} {cs : Array Value}
theorem Box.lt (h : Box w g t cs) : g < w.heap.size := by
  rcases Nat.lt_or_ge g w.heap.size with hlt | hge
  · exact hlt
  · unfold Box at h; rw [Array.getElem?_eq_none hge] at h; cases h
theorem Box.cell (h : Box w g t cs) (i : Nat) : w.cell? ⟨g, i, none⟩ = cs[i]? := by unfold Box at h; simp [World.cell?, h]
theorem Box.free (h : Box w g t cs) (i : Nat) : w.frozen? ⟨g, i, none⟩ = false := by
  unfold Box at h
  simp [World.frozen?, h]
theorem Box.new (w : World) (t : TypeId) (cs : Array Value) : Box (w.alloc (.cells cs t)) w.heap.size t cs := heap_alloc_new w _
theorem Box.drew (h : Box w g t cs) : Box w.drew g t cs := h
theorem Box.drewN (h : Box w g t cs) (n : Nat) : Box (w.drewN n) g t cs := h
theorem Box.alloc (h : Box w g t cs) (o : Obj) : Box (w.alloc o) g t cs := (Below.heap_alloc w o g h.lt).trans h
theorem Box.put (h : Box w g t cs) (i : Nat) (u : Value) : Box (w.setCell ⟨g, i, none⟩ u) g t (cs.setIfInBounds i u) := by
  unfold Box at h ⊢
  simp [World.setCell, Array.getElem?_modify, h]
theorem Box.far (h : Box w g t cs) {p : Addr} (hp : g ≠ p.block) (u : Value) : Box (w.setCell p u) g t cs := (Below.heap_setCell w p u g hp).trans h
theorem Box.kp (h : Box w g t cs) (hk : Kp S w w') (hn : ¬ S g) : Box w' g t cs := (hk.block g h.lt hn).trans h
theorem Box.grown {row : Option Nat} (h : Box w g t cs) (hb : w.grownBy w' row) (hn : some g ≠ row) : Box w' g t cs := (hb.block g h.lt hn).trans h
theorem Box.type_ne {g' : Nat} {t' : TypeId} {cs' : Array Value} (h : Box w g t cs) (h' : Box w g' t' cs') (hne : t ≠ t') : g ≠ g' := by
  rintro rfl
  unfold Box at h h'
  rw [h] at h'
  injection h' with h'
  injection h' with _ ht
  exact hne ht
theorem Box.own_ne {base : Nat} {e : TypeId} {size n : Nat} {v : Value} {xs : List Value} (hg : Box w g t cs) (h : w.ownsRow base e size v n xs) (hne : e ≠ t) : v.ownBlock ≠ some g := by
  rcases h.2 with ⟨rfl, _⟩ | ⟨g', cap, cur, rfl, _, hh, _⟩
  · simp [Value.ownBlock]
  · intro he
    have : g' = g := by simpa [Value.ownBlock] using he
    subst this
    exact Box.type_ne (t := e) hh hg hne rfl
end

/-- A slice at the address A reads as these bytes. -/
def Rd (w : World) (A : Option Addr) (l : List UInt8) : Prop :=
  l = [] ∨ ∃ b o, A = some ⟨b, o, none⟩ ∧ ∀ j u, l[j]? = some u → w.cell? ⟨b, o + j, none⟩ = some (.int .u8 u.toNat)

section
variable {S : Nat → Prop} {w w' : World} {A : Option Addr} {l : List UInt8}
theorem Rd.nil (w : World) (A : Option Addr) : Rd w A [] := .inl rfl
theorem Rd.lt (h : Rd w A l) (hl : l ≠ []) : ∃ a, A = some a ∧ a.block < w.heap.size := by
  rcases h with h | ⟨b, o, rfl, hc⟩
  · exact absurd h hl
  · refine ⟨_, rfl, ?_⟩
    cases l with
    | nil => exact absurd rfl hl
    | cons x r => exact World.block_lt_of_cell? w ⟨b, o + 0, none⟩ (hc 0 x rfl)
theorem Rd.keep (h : Rd w A l) (hk : ∀ a i u, A = some a → w.cell? ⟨a.block, i, none⟩ = some (.int .u8 u) → w'.cell? ⟨a.block, i, none⟩ = w.cell? ⟨a.block, i, none⟩) : Rd w' A l := by
  rcases h with h | ⟨b, o, rfl, hc⟩
  · exact .inl h
  · exact .inr ⟨b, o, rfl, fun j u hu => (hk _ (o + j) u.toNat rfl (hc j u hu)).trans (hc j u hu)⟩
theorem Rd.kp (h : Rd w A l) (hk : Kp S w w') (hn : ∀ a, A = some a → ¬ S a.block) : Rd w' A l :=
  h.keep fun a i _ ha hc => hk.cell (p := ⟨a.block, i, none⟩) (World.block_lt_of_cell? w ⟨a.block, i, none⟩ hc) (hn a ha)
theorem Rd.kp_box {g : Nat} {t : TypeId} {cs : Array Value} (h : Rd w A l) (hk : Kp (fun k => k = g) w w') (hb : Box w g t cs) (hn : ∀ (i : Nat) (u : Int), cs[i]? ≠ some (Value.int .u8 u)) : Rd w' A l :=
  h.keep fun a i u ha hc => hk.cell (p := ⟨a.block, i, none⟩) (World.block_lt_of_cell? w ⟨a.block, i, none⟩ hc) (by
    rintro rfl
    rw [hb.cell] at hc
    exact hn i u hc)
theorem Rd.drewN (h : Rd w A l) (n : Nat) : Rd (w.drewN n) A l := h
theorem Rd.alloc (h : Rd w A l) (o : Obj) : Rd (w.alloc o) A l :=
  h.keep fun a i _ _ hc => World.cell?_alloc_lt w o ⟨a.block, i, none⟩ (World.block_lt_of_cell? w ⟨a.block, i, none⟩ hc)
theorem Rd.take (h : Rd w A l) (n : Nat) : Rd w A (l.take n) := by
  rcases h with rfl | ⟨b, o, rfl, hc⟩
  · exact .inl (by simp)
  · refine .inr ⟨b, o, rfl, fun j u hu => hc j u ?_⟩
    rw [List.getElem?_take] at hu
    split at hu
    · exact hu
    · cases hu
theorem Rd.drop (h : Rd w A l) {n cap : Nat} (hc : l.length ≤ cap) : Rd w (if cap = n then A else A.map (·.add n)) (l.drop n) := by
  rcases Nat.lt_or_ge n l.length with hn | hn
  · rw [if_neg (by omega)]
    rcases h with rfl | ⟨b, o, rfl, hcell⟩
    · exact .inl (by simp)
    · refine .inr ⟨b, o + n, ?_, fun j u hu => ?_⟩
      · simp [Addr.add]
      · rw [List.getElem?_drop] at hu
        have := hcell (n + j) u hu
        rwa [← Nat.add_assoc] at this
  · exact .inl (List.drop_eq_nil_of_le hn)
theorem Rd.of_own {base : Nat} {e : TypeId} {c n : Nat} (h : w.ownsRow base e 1 (.slice A n c) n (bcs l)) : Rd w A l := by
  rcases h.2 with ⟨h1, h2⟩ | ⟨g, cap, cur, hv, _⟩
  · left
    have := h.1
    rw [bcs_length] at this
    exact List.eq_nil_of_length_eq_zero (by omega)
  · injection hv with hA
    subst hA
    refine .inr ⟨g, 0, rfl, fun j u hu => ?_⟩
    have := h.cells (g := g) rfl j (.int .u8 u.toNat) (by rw [bcs_get, hu]; rfl)
    unfold Addr.add at this
    split at this
    · next h0 => simp only [h0, Nat.add_zero]; exact this
    · simpa using this
end

/-- A slice's bytes as a text. -/
theorem Rd.text {P : Program} {w : World} {A : Option Addr} {l : List UInt8} (h : Rd w A l) (src dst e : TypeId) (c : Nat) (hs : P.underlying src = some (.slice e)) (he : P.underlying e = some (.int .u8)) (hd : P.underlying dst = some .string) :
    (convert src dst (.slice A l.length c)).run P w = .ok (.string ⟨l.toArray⟩) w := by
  rcases h with rfl | ⟨b, o, rfl, hc⟩
  · rcases A with _ | a
    · show (convert src dst (.slice none 0 c)).run P w = _
      rw [run_convert_bytes_string w src dst e none 0 c hs he hd]
      simp [Conv.bytesToString, ByteArray.empty, ByteArray.emptyWithCapacity]
      rfl
    · exact run_convert_bytes_back w src dst e a c [] hs he hd (by intro j hj; simp at hj)
  · refine run_convert_bytes_back w src dst e ⟨b, o, none⟩ c l hs he hd fun j hj => ?_
    have := hc j l[j] (List.getElem?_eq_getElem hj)
    have ha : (⟨b, o, none⟩ : Addr).add j = ⟨b, o + j, none⟩ := by unfold Addr.add; split <;> simp_all
    rw [ha]
    exact this

end Go.Proofs.YtcgfnfejacgaeaaDoor
