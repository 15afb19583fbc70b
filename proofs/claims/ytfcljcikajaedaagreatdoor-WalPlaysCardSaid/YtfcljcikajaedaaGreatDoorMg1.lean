/- Plain words for memory, used by the proofs of this seat: bytes as cells, a block that is known whole, a slice that reads as bytes, and what a call leaves as it was. No condition. -/
import Derived.WalkKit
import Derived.WalkSpells
import Derived.WalkLawsBesides
import Derived.Outline
import Derived.Deep.QuietTactic
import Derived.BigQuiet
import Derived.Lib.Hide
import Derived.Laws.EntriesVeiled
import Derived.Deep.MidRow
import Derived.Deep.WholeRow
import Derived.Test.YtfcljcikajaedaaGreatDoorRows
import Derived.IntWalk
import Derived.Deep.Cut
import Derived.Maps.AppendAt
import Derived.OwnWalk
import Derived.Lib.LazyBuf
namespace Go.Proofs.YtfcljcikajaedaaGreatDoor
open Go.RowKit

/-- Bytes, a cell each. -/
def bcs (l : List UInt8) : List Value := l.map fun b => .int .u8 b.toNat

theorem bcs_length (l : List UInt8) : (bcs l).length = l.length := by simp [bcs]
theorem bcs_append (l m : List UInt8) : bcs (l ++ m) = bcs l ++ bcs m := by simp [bcs]
theorem bcs_get (l : List UInt8) (j : Nat) : (bcs l)[j]? = (l[j]?).map fun b => .int .u8 b.toNat := by simp [bcs]
theorem bcs_one (l : List UInt8) : ∀ u ∈ bcs l, u.oneCell' = true := by
  intro u hu
  obtain ⟨_, _, rfl⟩ := List.mem_map.1 hu
  rfl

/-- Block g is just these cells, none of them frozen. -/
def Box (w : World) (g : Nat) (t : TypeId) (cs : Array Value) : Prop := w.heap[g]? = some (.cells cs t (0, 0))

/-- What a call leaves: the streams, and each block that was there, but for those of S. -/
structure Kp (S : Nat → Prop) (w w' : World) : Prop where
  os : w'.os = w.os
  tape : w'.tape = w.tape
  output : w'.output = w.output
  size : w.heap.size ≤ w'.heap.size
  block : ∀ k, k < w.heap.size → ¬ S k → w'.heap[k]? = w.heap[k]?

section
variable {S S' : Nat → Prop} {w w' w1 w2 : World}

theorem Kp.refl (S : Nat → Prop) (w : World) : Kp S w w := ⟨rfl, rfl, rfl, Nat.le_refl _, fun _ _ _ => rfl⟩
theorem Kp.trans (h : Kp S w w1) (k : Kp S w1 w2) : Kp S w w2 :=
  ⟨k.os.trans h.os, k.tape.trans h.tape, k.output.trans h.output, Nat.le_trans h.size k.size,
    fun i hi hs => (k.block i (Nat.lt_of_lt_of_le hi h.size) hs).trans (h.block i hi hs)⟩
theorem Kp.mono (h : Kp S w w') (hs : ∀ k, k < w.heap.size → S k → S' k) : Kp S' w w' :=
  ⟨h.os, h.tape, h.output, h.size, fun k hk hn => h.block k hk fun e => hn (hs k hk e)⟩
theorem Kp.drew (h : Kp S w w') : Kp S w w'.drew := ⟨h.os, h.tape, h.output, h.size, h.block⟩
theorem Kp.drewN (h : Kp S w w') (n : Nat) : Kp S w (w'.drewN n) := ⟨h.os, h.tape, h.output, h.size, h.block⟩
theorem Kp.alloc (h : Kp S w w') (o : Obj) : Kp S w (w'.alloc o) :=
  h.trans ⟨rfl, rfl, rfl, by simp, fun k hk _ => Below.heap_alloc _ _ _ hk⟩
theorem Kp.setCell (h : Kp S w w') {p : Addr} (hp : w.heap.size ≤ p.block ∨ S p.block) (u : Value) : Kp S w (w'.setCell p u) :=
  ⟨h.os, h.tape, h.output, by have := h.size; simpa [World.setCell] using this, fun k hk hs => by
    rw [Below.heap_setCell _ _ _ _ (by rintro rfl; rcases hp with hp | hp; omega; exact hs hp)]
    exact h.block k hk hs⟩
theorem Kp.one (w : World) (b i : Nat) (u : Value) : Kp (fun k => k = b) w (w.setCell ⟨b, i, none⟩ u) := (Kp.refl (fun k => k = b) w).setCell (p := ⟨b, i, none⟩) (.inr rfl) u
theorem Kp.grown (h : Kp S w w1) {row : Option Nat} (hg : w1.grownBy w2 row) (hr : ∀ k, row = some k → w.heap.size ≤ k ∨ S k) : Kp S w w2 :=
  ⟨hg.os.trans h.os, hg.tape.trans h.tape, hg.output.trans h.output, Nat.le_trans h.size hg.size, fun k hk hs => by
    rw [hg.block k (Nat.lt_of_lt_of_le hk h.size) (by intro e; rcases hr k e.symm with hp | hp; omega; exact hs hp)]
    exact h.block k hk hs⟩
theorem Kp.fresh (h : Kp (fun k => w.heap.size ≤ k) w w') (S : Nat → Prop) : Kp S w w' := h.mono fun k hk hs => by omega
/-- Blocks that the first step made may be turned by the second one. -/
theorem Kp.trans_new (h : Kp S w w1) (k : Kp S' w1 w2) (hs : ∀ b, S' b → w.heap.size ≤ b ∨ S b) : Kp S w w2 :=
  ⟨k.os.trans h.os, k.tape.trans h.tape, k.output.trans h.output, Nat.le_trans h.size k.size,
    fun i hi hn => (k.block i (Nat.lt_of_lt_of_le hi h.size) (fun e => by rcases hs i e with hp | hp; omega; exact hn hp)).trans (h.block i hi hn)⟩
theorem Kp.below {B : Nat} (h : Kp S w w') (hB : B ≤ w.heap.size) (hs : ∀ k, S k → B ≤ k) : Below B w w' :=
  ⟨h.os, h.tape, h.output, h.size, fun k hk => h.block k (by omega) fun e => by have := hs k e; omega⟩
theorem Kp.cell (h : Kp S w w') {p : Addr} (hp : p.block < w.heap.size) (hn : ¬ S p.block) : w'.cell? p = w.cell? p :=
  World.cell?_of_block (w := w) (h.block p.block hp hn)
theorem Kp.frozen (h : Kp S w w') {p : Addr} (hp : p.block < w.heap.size) (hn : ¬ S p.block) : w'.frozen? p = w.frozen? p :=
  World.frozen?_of_block (w := w) (h.block p.block hp hn)
theorem Kp.of_below {B : Nat} (h : Below B w w') : Kp (fun k => B ≤ k) w w' :=
  ⟨h.os, h.tape, h.output, h.size, fun k _ hn => h.block k (by omega)⟩
end

section
variable {S : Nat → Prop} {w w' : World} {g : Nat} {t : TypeId} {cs : Array Value}
theorem Box.lt (h : Box w g t cs) : g < w.heap.size := by
  rcases Nat.lt_or_ge g w.heap.size with hlt | hge
  · exact hlt
  · unfold Box at h; rw [Array.getElem?_eq_none hge] at h; cases h
theorem Box.cell (h : Box w g t cs) (i : Nat) : w.cell? ⟨g, i, none⟩ = cs[i]? := by unfold Box at h; simp [World.cell?, h]
theorem Box.free (h : Box w g t cs) (i : Nat) : w.frozen? ⟨g, i, none⟩ = false := by
  unfold Box at h
  simp [World.frozen?, h]
theorem Box.new (w : World) (t : TypeId) (cs : Array Value) : Box (w.alloc (.cells cs t)) w.heap.size t cs := heap_alloc_new w _
theorem Box.drew (h : Box w g t cs) : Box w.drew g t cs := h
theorem Box.drewN (h : Box w g t cs) (n : Nat) : Box (w.drewN n) g t cs := h
theorem Box.alloc (h : Box w g t cs) (o : Obj) : Box (w.alloc o) g t cs := (Below.heap_alloc w o g h.lt).trans h
theorem Box.put (h : Box w g t cs) (i : Nat) (u : Value) : Box (w.setCell ⟨g, i, none⟩ u) g t (cs.setIfInBounds i u) := by
  unfold Box at h ⊢
  simp [World.setCell, Array.getElem?_modify, h]
theorem Box.far (h : Box w g t cs) {p : Addr} (hp : g ≠ p.block) (u : Value) : Box (w.setCell p u) g t cs := (Below.heap_setCell w p u g hp).trans h
theorem Box.kp (h : Box w g t cs) (hk : Kp S w w') (hn : ¬ S g) : Box w' g t cs := (hk.block g h.lt hn).trans h
theorem Box.grown {row : Option Nat} (h : Box w g t cs) (hb : w.grownBy w' row) (hn : some g ≠ row) : Box w' g t cs := (hb.block g h.lt hn).trans h
theorem Box.type_ne {g' : Nat} {t' : TypeId} {cs' : Array Value} (h : Box w g t cs) (h' : Box w g' t' cs') (hne : t ≠ t') : g ≠ g' := by
  rintro rfl
  unfold Box at h h'
  rw [h] at h'
  injection h' with h'
  injection h' with _ ht
  exact hne ht
theorem Box.own_ne {base : Nat} {e : TypeId} {size n : Nat} {v : Value} {xs : List Value} (hg : Box w g t cs) (h : w.ownsRow base e size v n xs) (hne : e ≠ t) : v.ownBlock ≠ some g := by
  rcases h.2 with ⟨rfl, _⟩ | ⟨g', cap, cur, rfl, _, hh, _⟩
  · simp [Value.ownBlock]
  · intro he
    have : g' = g := by simpa [Value.ownBlock] using he
    subst this
    exact Box.type_ne (t := e) hh hg hne rfl
end

/-- A slice at the address A reads as these bytes. -/
def Rd (w : World) (A : Option Addr) (l : List UInt8) : Prop :=
  l = [] ∨ ∃ b o, A = some ⟨b, o, none⟩ ∧ ∀ j u, l[j]? = some u → w.cell? ⟨b, o + j, none⟩ = some (.int .u8 u.toNat)

section
variable {S : Nat → Prop} {w w' : World} {A : Option Addr} {l : List UInt8}
theorem Rd.nil (w : World) (A : Option Addr) : Rd w A [] := .inl rfl
theorem Rd.lt (h : Rd w A l) (hl : l ≠ []) : ∃ a, A = some a ∧ a.block < w.heap.size := by
  rcases h with h | ⟨b, o, rfl, hc⟩
  · exact absurd h hl
  · refine ⟨_, rfl, ?_⟩
    cases l with
    | nil => exact absurd rfl hl
    | cons x r => exact World.block_lt_of_cell? w ⟨b, o + 0, none⟩ (hc 0 x rfl)
theorem Rd.keep (h : Rd w A l) (hk : ∀ a i u, A = some a → w.cell? ⟨a.block, i, none⟩ = some (.int .u8 u) → w'.cell? ⟨a.block, i, none⟩ = w.cell? ⟨a.block, i, none⟩) : Rd w' A l := by
  rcases h with h | ⟨b, o, rfl, hc⟩
  · exact .inl h
  · exact .inr ⟨b, o, rfl, fun j u hu => (hk _ (o + j) u.toNat rfl (hc j u hu)).trans (hc j u hu)⟩
theorem Rd.kp (h : Rd w A l) (hk : Kp S w w') (hn : ∀ a, A = some a → ¬ S a.block) : Rd w' A l :=
  h.keep fun a i _ ha hc => hk.cell (p := ⟨a.block, i, none⟩) (World.block_lt_of_cell? w ⟨a.block, i, none⟩ hc) (hn a ha)
theorem Rd.kp_box {g : Nat} {t : TypeId} {cs : Array Value} (h : Rd w A l) (hk : Kp (fun k => k = g) w w') (hb : Box w g t cs) (hn : ∀ (i : Nat) (u : Int), cs[i]? ≠ some (Value.int .u8 u)) : Rd w' A l :=
  h.keep fun a i u ha hc => hk.cell (p := ⟨a.block, i, none⟩) (World.block_lt_of_cell? w ⟨a.block, i, none⟩ hc) (by
    rintro rfl
    rw [hb.cell] at hc
    exact hn i u hc)
theorem Rd.drewN (h : Rd w A l) (n : Nat) : Rd (w.drewN n) A l := h
theorem Rd.alloc (h : Rd w A l) (o : Obj) : Rd (w.alloc o) A l :=
  h.keep fun a i _ _ hc => World.cell?_alloc_lt w o ⟨a.block, i, none⟩ (World.block_lt_of_cell? w ⟨a.block, i, none⟩ hc)
theorem Rd.take (h : Rd w A l) (n : Nat) : Rd w A (l.take n) := by
  rcases h with rfl | ⟨b, o, rfl, hc⟩
  · exact .inl (by simp)
  · refine .inr ⟨b, o, rfl, fun j u hu => hc j u ?_⟩
    rw [List.getElem?_take] at hu
    split at hu
    · exact hu
    · cases hu
theorem Rd.drop (h : Rd w A l) {n cap : Nat} (hc : l.length ≤ cap) : Rd w (if cap = n then A else A.map (·.add n)) (l.drop n) := by
  rcases Nat.lt_or_ge n l.length with hn | hn
  · rw [if_neg (by omega)]
    rcases h with rfl | ⟨b, o, rfl, hcell⟩
    · exact .inl (by simp)
    · refine .inr ⟨b, o + n, ?_, fun j u hu => ?_⟩
      · simp [Addr.add]
      · rw [List.getElem?_drop] at hu
        have := hcell (n + j) u hu
        rwa [← Nat.add_assoc] at this
  · exact .inl (List.drop_eq_nil_of_le hn)
theorem Rd.of_own {base : Nat} {e : TypeId} {c n : Nat} (h : w.ownsRow base e 1 (.slice A n c) n (bcs l)) : Rd w A l := by
  rcases h.2 with ⟨h1, h2⟩ | ⟨g, cap, cur, hv, _⟩
  · left
    have := h.1
    rw [bcs_length] at this
    exact List.eq_nil_of_length_eq_zero (by omega)
  · injection hv with hA
    subst hA
    refine .inr ⟨g, 0, rfl, fun j u hu => ?_⟩
    have := h.cells (g := g) rfl j (.int .u8 u.toNat) (by rw [bcs_get, hu]; rfl)
    unfold Addr.add at this
    split at this
    · next h0 => simp only [h0, Nat.add_zero]; exact this
    · simpa using this
end

/-- A slice's bytes as a text. -/
theorem Rd.text {P : Program} {w : World} {A : Option Addr} {l : List UInt8} (h : Rd w A l) (src dst e : TypeId) (c : Nat) (hs : P.underlying src = some (.slice e)) (he : P.underlying e = some (.int .u8)) (hd : P.underlying dst = some .string) :
    (convert src dst (.slice A l.length c)).run P w = .ok (.string ⟨l.toArray⟩) w := by
  rcases h with rfl | ⟨b, o, rfl, hc⟩
  · rcases A with _ | a
    · show (convert src dst (.slice none 0 c)).run P w = _
      rw [run_convert_bytes_string w src dst e none 0 c hs he hd]
      simp [Conv.bytesToString, ByteArray.empty, ByteArray.emptyWithCapacity]
      rfl
    · exact run_convert_bytes_back w src dst e a c [] hs he hd (by intro j hj; simp at hj)
  · refine run_convert_bytes_back w src dst e ⟨b, o, none⟩ c l hs he hd fun j hj => ?_
    have := hc j l[j] (List.getElem?_eq_getElem hj)
    have ha : (⟨b, o, none⟩ : Addr).add j = ⟨b, o + j, none⟩ := by unfold Addr.add; split <;> simp_all
    rw [ha]
    exact this

end Go.Proofs.YtfcljcikajaedaaGreatDoor

/- More plain words for memory: a block written whole, read whole. No condition. -/
namespace Go.Proofs.YtfcljcikajaedaaGreatDoor
open Go.RowKit

section
variable {S : Nat → Prop} {w w' : World} {g : Nat} {t : TypeId}
theorem Box.writes (vs : List Value) : ∀ (o : Nat) (w : World) (L : List Value), Box w g t L.toArray → o + vs.length ≤ L.length → Box (w.setCells g o vs) g t (L.take o ++ vs ++ L.drop (o + vs.length)).toArray := by
  induction vs with
  | nil => intro o w L h _; simpa [World.setCells] using h
  | cons v r ih =>
    intro o w L h hl
    simp only [List.length_cons] at hl
    have h1 := h.put o v
    rw [List.setIfInBounds_toArray] at h1
    have h2 := ih (o + 1) _ _ h1 (by simp; omega)
    rw [World.setCells]
    have e : (L.set o v).take (o + 1) ++ r ++ (L.set o v).drop (o + 1 + r.length) = L.take o ++ v :: r ++ L.drop (o + (v :: r).length) := by
      rw [List.drop_set_of_lt (by omega), List.take_set, List.length_cons, show o + 1 + r.length = o + (r.length + 1) by omega]
      have : (L.take (o + 1)).set o v = L.take o ++ [v] := by
        rw [List.take_succ_eq_append_getElem (by omega), List.set_append_right _ _ (by simp; omega)]
        simp [Nat.min_eq_left (show o ≤ L.length by omega)]
      rw [this]
      simp
    rw [e] at h2
    exact h2
/-- A block, written whole. -/
theorem Box.write {L vs : List Value} (h : Box w g t L.toArray) (hl : vs.length = L.length) : Box (w.setCells g 0 vs) g t vs.toArray := by
  have := Box.writes vs 0 w L h (by omega)
  simpa [hl] using this
theorem Kp.setCells (vs : List Value) : ∀ (o : Nat) (w1 : World), Kp S w w1 → (w.heap.size ≤ g ∨ S g) → Kp S w (w1.setCells g o vs) := by
  induction vs with
  | nil => intro o w1 h _; exact h
  | cons v r ih => intro o w1 h hg; exact ih (o + 1) _ (h.setCell (p := ⟨g, o, none⟩) hg v) hg
theorem Box.range' {L : List Value} (h : Box w g t L.toArray) : w.rangeAt g 0 L := fun j v hj => by
  rw [h.cell, Nat.zero_add]
  simpa using hj
theorem Box.there {L : List Value} (h : Box w g t L.toArray) : w.there g 0 L.toArray.size := fun j hj => by
  rw [h.cell, h.free, Nat.zero_add]
  exact ⟨by simpa using hj, rfl⟩
end
/-- An element of an array that is a value. -/
theorem run_index_agg {P : Program} (w : World) (t e : TypeId) (n : Nat) (k : IntKind) (q : IntKind) (cs : Array Value) (i : Nat) (v : Value) (inf : TypeInfo) (ht : P.underlying t = some (.array n e)) (he : P.underlying e = some (.int q)) (hi : P.info? e = some inf) (hs : inf.size = 1) (hl : i < n) (hc : cs[i]? = some v) :
    (Instr.index t (.agg cs) (.int k (i : Int))).run P w = .ok v w := by
  have h1 : (0 : Int) ≤ i := by omega
  simp [Instr.index, run_underlying ht, asIntOf, part, isAgg, run_underlying he, sizeOf, typeInfo, hi, hs, hc]
  intro; omega
end Go.Proofs.YtfcljcikajaedaaGreatDoor

/- What an opener of package pack does, each call: its state is the bytes that are left and, once it failed, its error. The bytes are fewer than the greatest int. -/
namespace Go.Proofs.YtfcljcikajaedaaGreatDoor
open Go.RowKit

/-- What stands in the field 'failed'. -/
def FnOf (G : Nat → Prop) (w : World) : Option Int → Value → Prop
  | none, fv => fv = .nilFunc
  | some e, fv => ∃ g, fv = .func (Fn.func 137) #[] #[.pointer (some ⟨g, 0, none⟩)] ∧ G g ∧ Box w g 47 #[.int .i64 e]

/-- The opener in block b: the bytes l are left, f its error; all its blocks are of G. -/
def Opn (G : Nat → Prop) (w : World) (b : Nat) (l : List UInt8) (f : Option Int) : Prop :=
  G b ∧ ∃ A c fv, Box w b 186 #[.slice A l.length c, fv] ∧ l.length ≤ c ∧ c ≤ maxLen ∧ Rd w A l ∧ (l ≠ [] → ∀ a, A = some a → G a.block) ∧ FnOf G w f fv

section
variable {G S : Nat → Prop} {w w' : World} {b : Nat} {l : List UInt8} {f : Option Int}
theorem Opn.kp (h : Opn G w b l f) (hk : Kp S w w') (hs : ∀ k, G k → ¬ S k) : Opn G w' b l f := by
  obtain ⟨hb, A, c, fv, hx, h1, h2, h3, h4, h5⟩ := h
  refine ⟨hb, A, c, fv, hx.kp hk (hs b hb), h1, h2, ?_, h4, ?_⟩
  · by_cases hl : l = []
    · exact .inl hl
    · exact h3.kp hk (fun a ha => hs _ (h4 hl a ha))
  cases f with
  | none => exact h5
  | some e =>
    obtain ⟨g, e1, e2, e3⟩ := h5
    exact ⟨g, e1, e2, e3.kp hk (hs g e2)⟩
theorem Opn.old (h : Opn G w b l f) : Opn (fun k => G k ∧ k < w.heap.size) w b l f := by
  obtain ⟨hb, A, c, fv, hx, h1, h2, h3, h4, h5⟩ := h
  refine ⟨⟨hb, hx.lt⟩, A, c, fv, hx, h1, h2, h3, fun hl a ha => ⟨h4 hl a ha, ?_⟩, ?_⟩
  · obtain ⟨a', e, hlt⟩ := h3.lt hl
    rw [ha] at e
    cases e
    exact hlt
  · cases f with
    | none => exact h5
    | some e =>
      obtain ⟨g, e1, e2, e3⟩ := h5
      exact ⟨g, e1, ⟨e2, e3.lt⟩, e3⟩
theorem Opn.mono {G' : Nat → Prop} (h : Opn G w b l f) (hs : ∀ k, G k → G' k) : Opn G' w b l f := by
  obtain ⟨hb, A, c, fv, hx, h1, h2, h3, h4, h5⟩ := h
  refine ⟨hs _ hb, A, c, fv, hx, h1, h2, h3, fun hl a ha => hs _ (h4 hl a ha), ?_⟩
  cases f with
  | none => exact h5
  | some e =>
    obtain ⟨g, e1, e2, e3⟩ := h5
    exact ⟨g, e1, hs _ e2, e3⟩
end

theorem func_cmp (w : World) : (binOp .neq 184 .nilFunc .nilFunc).run Tryz.prog w = .ok (.bool false) w := by kernel_rfl
theorem func_cmp' (fn : Fn) (a b : Array Value) (w : World) : (binOp .neq 184 (.func fn a b) .nilFunc).run Tryz.prog w = .ok (.bool true) w := by kernel_rfl

set_option maxHeartbeats 400000 in
theorem reader_nil (w : World) :
    Calls Tryz.prog 120 #[.pointer none] w fun e w' => e = .returned (.func (Fn.func 137) #[] #[.pointer (some ⟨w.heap.size, 0, none⟩)]) ∧ w.alloc (.cells #[.int .i64 1] 47) = w' := by
  go_enter Tryz.func120, Tryz.ntmps120
  go_wp2_with go_in
  go_ret
  exact ⟨rfl, rfl⟩

set_option maxHeartbeats 400000 in
theorem reader_fine (b : Nat) (w : World) (sl : Value) (hb : Box w b 186 #[sl, .nilFunc]) :
    Calls Tryz.prog 120 #[.pointer (some ⟨b, 0, none⟩)] w fun e w' => e = .returned (.func (Fn.func 132) #[.pointer (some ⟨b, 0, none⟩)] #[]) ∧ w = w' := by
  have c1 := hb.cell 1
  simp at c1
  clear hb
  have hcmp := func_cmp
  go_enter Tryz.func120, Tryz.ntmps120
  go_wp2
  go_ret
  exact ⟨rfl, rfl⟩

set_option maxHeartbeats 400000 in
theorem reader_fails (b g : Nat) (w : World) (sl : Value) (hb : Box w b 186 #[sl, .func (Fn.func 137) #[] #[.pointer (some ⟨g, 0, none⟩)]]) :
    Calls Tryz.prog 120 #[.pointer (some ⟨b, 0, none⟩)] w fun e w' => e = .returned (.func (Fn.func 137) #[] #[.pointer (some ⟨g, 0, none⟩)]) ∧ w = w' := by
  have c1 := hb.cell 1
  simp at c1
  clear hb
  have hcmp := fun w => func_cmp' (Fn.func 137) #[] #[.pointer (some ⟨g, 0, none⟩)] w
  go_enter Tryz.func120, Tryz.ntmps120
  go_wp2
  go_ret
  exact ⟨rfl, rfl⟩

set_option maxHeartbeats 400000 in
theorem failing1 (g : Nat) (n e1 : Int) (w : World) (hb : Box w g 47 #[.int .i64 e1]) :
    Calls Tryz.prog 137 #[.int .i64 n, .pointer (some ⟨g, 0, none⟩)] w fun e w' => e = .returned (.tuple #[.slice none 0 0, .int .i64 e1]) ∧ ∃ q, w' = w.drewN q := by
  have c1 := hb.cell 0
  simp at c1
  clear hb
  go_enter Tryz.func137, Tryz.ntmps137
  go_wp2
  go_quiet (fail)
  go_wp2
  go_ret2
  exact ⟨rfl, _, rfl⟩

/-- 'next' where the bytes are there. -/
theorem next_fine_ (b : Nat) (A : Option Addr) (c : Nat) (l : List UInt8) (n : Nat) (w : World) (hb : Box w b 186 #[.slice A l.length c, .nilFunc]) (_hc : l.length ≤ c) (_hm : c ≤ maxLen) (hn : n ≤ l.length) :
    Calls Tryz.prog 132 #[.pointer (some ⟨b, 0, none⟩), .int .i64 n] w fun e w' => e = .returned (.tuple #[.slice A n c, .int .i64 0]) ∧
      (w.setCell ⟨b, 0, none⟩ (.slice (if c = n then A else A.map (·.add n)) (l.length - n) (c - n))) = w' := by
  have c0 := hb.cell 0
  have f0 := hb.free 0
  simp at c0
  have hnd : decide ((n : Int) < 0) = false := by simp
  have hnd2 : decide (l.length < n) = false := by simpa using hn
  clear hb
  go_enter Tryz.func132, Tryz.ntmps132
  go_wp2
  all_goals go_ret2
  all_goals exact ⟨rfl, rfl⟩

/-- 'next' where they are not. -/
theorem next_fails_ (b : Nat) (A : Option Addr) (c : Nat) (l : List UInt8) (n : Int) (w : World) (hb : Box w b 186 #[.slice A l.length c, .nilFunc]) (hn : n < 0 ∨ (l.length : Int) < n) :
    Calls Tryz.prog 132 #[.pointer (some ⟨b, 0, none⟩), .int .i64 n] w fun e w' => e = .returned (.tuple #[.slice none 0 0, .int .i64 3]) ∧
      ∃ q, w' = ((w.setCell ⟨b, 1, none⟩ (.func (Fn.func 137) #[] #[.pointer (some ⟨w.heap.size, 0, none⟩)])).alloc (.cells #[.int .i64 3] 47)).drewN q := by
  have c0 := hb.cell 0
  have o1 := hb.cell 1
  have f1 := hb.free 1
  have hl := hb.lt
  have hg := Box.new (w.setCell ⟨b, 1, none⟩ (.func (Fn.func 137) #[] #[.pointer (some ⟨w.heap.size, 0, none⟩)])) 47 #[.int .i64 3]
  have c1 := ((hb.put 1 (.func (Fn.func 137) #[] #[.pointer (some ⟨w.heap.size, 0, none⟩)])).alloc (.cells #[.int .i64 3] 47)).cell 1
  simp at c0 c1 o1 hg
  clear hb
  rcases hn with hn | hn
  · have hnd : decide (n < 0) = true := by simpa using hn
    clear hn
    go_enter Tryz.func132, Tryz.ntmps132
    go_wp2_with (first | (go_at_call 137; refine (failing1 _ _ 3 _ hg).mono ?_; rintro e w' ⟨rfl, q, rfl⟩) | go_in)
    go_ret2
    exact ⟨rfl, _, rfl⟩
  · have hnd : decide (n < 0) = false := by simp; omega
    have hnd2 : decide ((l.length : Int) < n) = true := by simpa using hn
    clear hn
    go_enter Tryz.func132, Tryz.ntmps132
    go_wp2_with (first | (go_at_call 137; refine (failing1 _ _ 3 _ hg).mono ?_; rintro e w' ⟨rfl, q, rfl⟩) | go_in)
    go_ret2
    exact ⟨rfl, _, rfl⟩

/-- The bytes are there: the opener goes on behind them. -/
theorem next_fine {G : Nat → Prop} {w : World} {b : Nat} {l : List UInt8} (h : Opn G w b l none) (n : Nat) (hn : n ≤ l.length) :
    Calls Tryz.prog 132 #[.pointer (some ⟨b, 0, none⟩), .int .i64 n] w fun e w' => ∃ A c, e = .returned (.tuple #[.slice A n c, .int .i64 0]) ∧ n ≤ c ∧ c ≤ maxLen ∧ Rd w' A (l.take n) ∧ (l ≠ [] → ∀ a, A = some a → G a.block) ∧
      Opn G w' b (l.drop n) none ∧ Kp (fun k => k = b) w w' := by
  obtain ⟨hb, A, c, fv, hx, h1, h2, h3, h4, h5⟩ := h
  cases h5
  refine (next_fine_ b A c l n w hx h1 h2 hn).mono ?_
  rintro e w' ⟨rfl, rfl⟩
  have hk : Kp (fun k => k = b) w (w.setCell ⟨b, 0, none⟩ (.slice (if c = n then A else A.map (·.add n)) (l.length - n) (c - n))) := Kp.one _ _ _ _
  have hr : Rd (w.setCell ⟨b, 0, none⟩ (.slice (if c = n then A else A.map (·.add n)) (l.length - n) (c - n))) A l := h3.kp_box hk hx (by
    intro i u hu
    rcases i with _ | _ | i <;> simp at hu)
  refine ⟨A, c, rfl, by omega, h2, hr.take n, h4, ⟨hb, if c = n then A else A.map (·.add n), c - n, .nilFunc, ?_, ?_, ?_, hr.drop (n := n) h1, ?_, rfl⟩, hk⟩
  · have := hx.put 0 (.slice (if c = n then A else A.map (·.add n)) (l.length - n) (c - n))
    simpa using this
  · simp; omega
  · simp only [maxLen] at h2 ⊢; omega
  · intro hl a ha
    have hl' : l ≠ [] := by rintro rfl; simp at hl
    split at ha
    · exact h4 hl' a ha
    · obtain ⟨a', ha', rfl⟩ := Option.map_eq_some_iff.1 ha
      have := h4 hl' a' ha'
      unfold Addr.add
      split <;> exact this

/-- They are not: it fails. -/
theorem next_fails {G : Nat → Prop} {w : World} {b : Nat} {l : List UInt8} (h : Opn G w b l none) (hG : G w.heap.size) (n : Int) (hn : n < 0 ∨ (l.length : Int) < n) :
    Calls Tryz.prog 132 #[.pointer (some ⟨b, 0, none⟩), .int .i64 n] w fun e w' => e = .returned (.tuple #[.slice none 0 0, .int .i64 3]) ∧
      Opn G w' b l (some 3) ∧ Kp (fun k => k = b) w w' := by
  obtain ⟨hb, A, c, fv, hx, h1, h2, h3, h4, h5⟩ := h
  cases h5
  refine (next_fails_ b A c l n w hx hn).mono ?_
  rintro e w' ⟨rfl, q, rfl⟩
  have hk : Kp (fun k => k = b) w (w.setCell ⟨b, 1, none⟩ (.func (Fn.func 137) #[] #[.pointer (some ⟨w.heap.size, 0, none⟩)])) := Kp.one _ _ _ _
  have hr := h3.kp_box hk hx (by
    intro i u hu
    rcases i with _ | _ | i <;> simp at hu)
  have hx1 := hx.put 1 (.func (Fn.func 137) #[] #[.pointer (some ⟨w.heap.size, 0, none⟩)])
  have hg := Box.new (w.setCell ⟨b, 1, none⟩ (.func (Fn.func 137) #[] #[.pointer (some ⟨w.heap.size, 0, none⟩)])) 47 #[.int .i64 3]
  simp at hg hx1
  exact ⟨rfl, ⟨hb, A, c, _, (hx1.alloc _).drewN q, h1, h2, (hr.alloc _).drewN q, h4, _, rfl, hG, hg.drewN q⟩, (hk.alloc _).drewN q⟩

end Go.Proofs.YtfcljcikajaedaaGreatDoor

/- Numbers as bytes, the highest one first, and back: plain arithmetic, no program. -/
namespace Go.Proofs.YtfcljcikajaedaaGreatDoor
open Go.RowKit

/-- The number that bytes say. -/
def numN (l : List UInt8) : Nat := l.foldl (fun n b => n * 256 + b.toNat) 0
/-- The lowest w bytes of a number. -/
def beN : Nat → Nat → List UInt8
  | 0, _ => []
  | w + 1, n => beN w (n / 256) ++ [UInt8.ofNat (n % 256)]

theorem numN_snoc (l : List UInt8) (b : UInt8) : numN (l ++ [b]) = numN l * 256 + b.toNat := by simp [numN]
theorem numN_lt_aux (m : List UInt8) : ∀ l : List UInt8, numN l < 256 ^ l.length → numN (l ++ m) < 256 ^ (l ++ m).length := by
  induction m with
  | nil => intro l h; simpa using h
  | cons b m ih =>
    intro l h
    have e : l ++ b :: m = (l ++ [b]) ++ m := by simp
    rw [e]
    refine ih _ ?_
    rw [numN_snoc]
    simp only [List.length_append, List.length_cons, List.length_nil, Nat.zero_add, Nat.pow_succ]
    have := b.toNat_lt
    omega
theorem numN_lt (l : List UInt8) : numN l < 256 ^ l.length := by simpa using numN_lt_aux l [] (by simp [numN])
theorem numN_lt8 (l : List UInt8) (h : l.length ≤ 8) : numN l < 18446744073709551616 := by
  have h1 := numN_lt l
  have h2 : 256 ^ l.length ≤ 256 ^ 8 := Nat.pow_le_pow_right (by omega) h
  have h3 : 256 ^ 8 = 18446744073709551616 := by decide
  omega
theorem take_snoc {α : Type} (l : List α) (k : Nat) (h : k < l.length) : l.take (k + 1) = l.take k ++ [l[k]] := by
  rw [List.take_succ_eq_append_getElem h]
theorem numN_take (l : List UInt8) (k : Nat) (h : k < l.length) : numN (l.take (k + 1)) = numN (l.take k) * 256 + l[k].toNat := by
  rw [take_snoc l k h, numN_snoc]
theorem beN_length : ∀ w n, (beN w n).length = w
  | 0, _ => rfl
  | w + 1, n => by simp [beN, beN_length w]
theorem beN_get : ∀ w n j, j < w → (beN w n)[j]? = some (UInt8.ofNat (n / 256 ^ (w - 1 - j) % 256))
  | 0, _, j, h => by omega
  | w + 1, n, j, h => by
    rw [beN]
    rcases Nat.lt_or_ge j w with hj | hj
    · rw [List.getElem?_append_left (by rw [beN_length]; exact hj), beN_get w (n / 256) j hj, Nat.div_div_eq_div_mul]
      have e : 256 * 256 ^ (w - 1 - j) = 256 ^ (w + 1 - 1 - j) := by
        rw [← Nat.pow_succ']
        exact congrArg (fun k => 256 ^ k) (by omega)
      rw [e]
    · obtain rfl : j = w := by omega
      rw [List.getElem?_append_right (by rw [beN_length]; omega), beN_length]
      simp
theorem numN_beN : ∀ w n, n < 256 ^ w → numN (beN w n) = n
  | 0, n, h => by simp at h; simp [beN, numN, h]
  | w + 1, n, h => by
    rw [Nat.pow_succ] at h
    have hm : n % 256 < 256 := Nat.mod_lt _ (by omega)
    have e : (UInt8.ofNat (n % 256)).toNat = n % 256 := by simp
    rw [beN, numN_snoc, numN_beN w (n / 256) (by omega), e]
    omega

/-- One step of the loop, in the walk's words. -/
theorem or_step (n b : Nat) (h : n * 256 + 256 ≤ 18446744073709551616) (hb : b < 256) : bits .or .u64 (IntKind.u64.wrap ((n : Int) * 256)) (IntKind.u64.wrap (b : Int)) = ((n * 256 + b : Nat) : Int) := by
  have e1 : IntKind.u64.wrap ((n : Int) * 256) = ((n * 256 : Nat) : Int) := by rw [IntWalk.u64_in _ (by omega)]; omega
  have e2 : IntKind.u64.wrap (b : Int) = ((b : Nat) : Int) := IntWalk.u64_in _ (by omega)
  rw [e1, e2, u64_or_nat _ _ (by omega) (by omega)]
  have := Nat.shiftLeft_add_eq_or_of_lt (i := 8) (b := b) (by omega) n
  rw [Nat.shiftLeft_eq] at this
  simp only [Nat.reducePow] at this
  rw [this]

end Go.Proofs.YtfcljcikajaedaaGreatDoor

/- What an opener's calls answer: Take, Hash, Text, Name, Left, Err, End, in every state. -/
namespace Go.Proofs.YtfcljcikajaedaaGreatDoor
open Go.RowKit

set_option maxHeartbeats 400000 in
theorem number_any (b o : Nat) (c : Nat) (l : List UInt8) (w : World) (hl : l.length ≤ 8)
   (hc : ∀ j u, l[j]? = some u → w.cell? ⟨b, o + j, none⟩ = some (.int .u8 u.toNat)) :
    Calls Tryz.prog 115 #[.slice (some ⟨b, o, none⟩) l.length c] w fun e w' => e = .returned (.int .u64 (numN l)) ∧ w = w' := by
  have hc' := Lib.hid hc
  clear hc
  go_enter Tryz.func115, Tryz.ntmps115
  go_wp2
  go_loop [3, 8] (fun n i => ∃ k : Nat, k ≤ l.length ∧ i = .int .i64 k ∧ n = .int .u64 (numN (l.take k))) (fun _ i => l.length - (intOf i).toNat)
  case atStart => exact ⟨0, Nat.zero_le _, rfl, rfl⟩
  case round =>
    obtain ⟨k, hk, rfl, rfl⟩ := hrel
    by_cases hlt : k < l.length
    · have hx := hc'.out k l[k] (List.getElem?_eq_getElem hlt)
      go_wp2
      go_round
      case rel =>
        have h1 := numN_lt8 (l.take (k + 1)) (by simp; omega)
        have h2 := numN_take l k hlt
        have h3 := l[k].toNat_lt
        have h4 : numN (l.take k) * 256 + 256 ≤ 18446744073709551616 := by
          have h5 := numN_lt (l.take k)
          have h6 : (l.take k).length ≤ 7 := by simp; omega
          have h7 : 256 ^ (l.take k).length ≤ 256 ^ 7 := Nat.pow_le_pow_right (by omega) h6
          have h8 : 256 ^ 7 * 256 = 18446744073709551616 := by decide
          omega
        exact ⟨k + 1, by omega, by go_num, by rw [or_step _ _ h4 h3, h2]⟩
      case measure => simp [intOf]; omega
    · go_wp2
      go_ret
      exact ⟨by
        rw [List.take_of_length_le (by omega)]
        rfl, rfl⟩

set_option maxHeartbeats 400000 in
theorem number_nil (A : Option Addr) (c : Nat) (w : World) :
    Calls Tryz.prog 115 #[.slice A 0 c] w fun e w' => e = .returned (.int .u64 0) ∧ w = w' := by
  go_enter Tryz.func115, Tryz.ntmps115
  go_wp2
  refine wp_loop_rounds 1 ?_
  rw [rounds_succ]
  go_wp2
  go_ret
  exact ⟨rfl, rfl⟩

theorem number_rd (A : Option Addr) (c : Nat) (l : List UInt8) (w : World) (hl : l.length ≤ 8) (h : Rd w A l) :
    Calls Tryz.prog 115 #[.slice A l.length c] w fun e w' => e = .returned (.int .u64 (numN l)) ∧ w = w' := by
  rcases h with rfl | ⟨b, o, rfl, hc⟩
  · exact number_nil A c w
  · exact number_any b o c l w hl hc

end Go.Proofs.YtfcljcikajaedaaGreatDoor

/- Arrays of 32 bytes by value, and what the opener's three readers tell. -/
namespace Go.Proofs.YtfcljcikajaedaaGreatDoor
open Go.RowKit

theorem bcs_all (l : List UInt8) : (bcs l).toArray.all (·.oneCell') = true := all_oneCell_toArray (bcs_one l)
theorem Rd.range {w : World} {b o : Nat} {l : List UInt8} (hc : ∀ j u, l[j]? = some u → w.cell? ⟨b, o + j, none⟩ = some (.int .u8 u.toNat)) : w.rangeAt b o (bcs l) := by
  intro j v hj
  rw [bcs_get] at hj
  obtain ⟨u, hu, rfl⟩ := Option.map_eq_some_iff.1 hj
  exact hc j u hu
set_option maxHeartbeats 400000 in
theorem text1_rd (A : Option Addr) (c : Nat) (l : List UInt8) (w : World) (h : Rd w A l) :
    Calls Tryz.prog 119 #[.slice A l.length c] w fun e w' => e = .returned (.string ⟨l.toArray⟩) ∧ w = w' := by
  have hcv := h.text 31 9 5 c Tryz.underlying31 Tryz.underlying5 Tryz.underlying9
  go_enter Tryz.func119, Tryz.ntmps119
  go_wp2
  go_ret
  exact ⟨rfl, rfl⟩

set_option maxHeartbeats 400000 in
theorem name1_rd (A : Option Addr) (c : Nat) (x : UInt8) (l : List UInt8) (w : World) (hl : l.length + 1 ≤ c) (hm : c ≤ maxLen) (h : Rd w A (x :: l)) :
    Calls Tryz.prog 118 #[.slice A (l.length + 1) c] w fun e w' => e = .returned (.string ⟨l.toArray⟩) ∧ w = w' := by
  have hd := h.drop (n := 1) (cap := c) (by simpa using hl)
  have hcv := hd.text 31 9 5 (c - 1) Tryz.underlying31 Tryz.underlying5 Tryz.underlying9
  simp only [List.drop_one, List.tail_cons] at hcv
  unfold maxLen at hm
  have Hd : Hid (∃ b o, A = some ⟨b, o, none⟩) := by
    rcases h with h | ⟨b, o, e, _⟩
    · cases h
    · exact ⟨b, o, e⟩
  clear hd h
  by_cases hc1 : c = 1
  · rw [if_pos hc1] at hcv
    subst hc1
    obtain rfl : l = [] := List.eq_nil_of_length_eq_zero (by omega)
    simp only [List.length_nil, Nat.sub_self] at hcv
    go_enter Tryz.func118, Tryz.ntmps118
    go_wp2
    go_ret
    exact ⟨rfl, rfl⟩
  · rw [if_neg hc1] at hcv
    obtain ⟨b, o, rfl⟩ := Hd.out
    have e1 : Option.map (fun (x : Addr) => x.add 1) (some ⟨b, o, none⟩) = some ⟨b, o + 1, none⟩ := by simp [Addr.add]
    rw [e1] at hcv
    go_enter Tryz.func118, Tryz.ntmps118
    go_wp2
    go_ret
    exact ⟨rfl, rfl⟩

end Go.Proofs.YtfcljcikajaedaaGreatDoor

/- What the opener's generic reader answers, at each of its instances and for each of the four readings, in every state. -/
namespace Go.Proofs.YtfcljcikajaedaaGreatDoor
open Go.RowKit

/-- What a read of n bytes gives, and what it leaves: the bytes and the error. -/
def rdS (l : List UInt8) (f : Option Int) (n : Int) : Option (List UInt8) × List UInt8 × Option Int :=
  match f with
  | some e => (none, l, some e)
  | none => if 0 ≤ n ∧ n ≤ l.length then (some (l.take n.toNat), l.drop n.toNat, none) else (none, l, some 3)

theorem rdS_fine (l : List UInt8) (n : Nat) (h : n ≤ l.length) : rdS l none n = (some (l.take n), l.drop n, none) := by
  unfold rdS
  simp only
  rw [if_pos ⟨by omega, by omega⟩, Int.toNat_natCast]
theorem rdS_short (l : List UInt8) (n : Int) (h : n < 0 ∨ (l.length : Int) < n) : rdS l none n = (none, l, some 3) := by
  unfold rdS
  simp only
  rw [if_neg (by omega)]
theorem rdS_failed (l : List UInt8) (e n : Int) : rdS l (some e) n = (none, l, some e) := rfl

set_option maxHeartbeats 400000 in
theorem read_num_fine {G : Nat → Prop} {w : World} {b : Nat} {l : List UInt8} (h : Opn G w b l none) (n : Nat) (hn : n ≤ l.length) (hn8 : n ≤ 8) :
    Calls Tryz.prog 114 #[.pointer (some ⟨b, 0, none⟩), .int .i64 n, .func (Fn.func 115) #[] #[]] w fun e w' => e = .returned (.int .u64 (numN (l.take n))) ∧ Opn G w' b (l.drop n) none ∧ Kp (fun k => k = b) w w' := by
  have hlen : (l.take n).length = n := by simp; omega
  have H := Lib.hid h
  obtain ⟨_, A0, c0, fv, hx, _, _, _, _, h5⟩ := h
  cases h5
  have Hl := Lib.hid hlen
  clear hlen
  go_enter Tryz.func114, Tryz.ntmps114
  go_wp2_with fail
  refine (reader_fine b w _ hx).mono ?_
  rintro e w1 ⟨rfl, rfl⟩
  clear hx
  go_wp2_with fail
  refine (next_fine H.out n hn).mono ?_
  rintro e w1 ⟨A, c, rfl, hc1, hc2, hr, _, ho, hk⟩
  have Hr := Lib.hid hr
  have Ho := Lib.hid ho
  have Hk := Lib.hid hk
  clear hr ho hk
  go_wp2_with fail
  have ht := number_rd A c (l.take n) w1 (by rw [Hl.out]; exact hn8) Hr.out
  rw [Hl.out] at ht
  refine ht.mono ?_
  rintro e w2 ⟨rfl, rfl⟩
  go_wp2_with fail
  go_ret
  exact ⟨rfl, Ho.out, Hk.out⟩

set_option maxHeartbeats 400000 in
theorem read_num_short {G : Nat → Prop} {w : World} {b : Nat} {l : List UInt8} (h : Opn G w b l none) (hG : G w.heap.size) (n : Int) (hn : n < 0 ∨ (l.length : Int) < n) :
    Calls Tryz.prog 114 #[.pointer (some ⟨b, 0, none⟩), .int .i64 n, .func (Fn.func 115) #[] #[]] w fun e w' => e = .returned (.int .u64 0) ∧ Opn G w' b l (some 3) ∧ Kp (fun k => k = b) w w' := by
  have H := Lib.hid h
  have Hn := Lib.hid hn
  obtain ⟨_, A0, c0, fv, hx, _, _, _, _, h5⟩ := h
  cases h5
  clear hn
  go_enter Tryz.func114, Tryz.ntmps114
  go_wp2_with fail
  refine (reader_fine b w _ hx).mono ?_
  rintro e w1 ⟨rfl, rfl⟩
  clear hx
  go_wp2_with fail
  refine (next_fails H.out hG n Hn.out).mono ?_
  rintro e w1 ⟨rfl, ho, hk⟩
  have Ho := Lib.hid ho
  have Hk := Lib.hid hk
  clear ho hk
  go_wp2_with fail
  go_ret
  exact ⟨rfl, Ho.out, Hk.out⟩

set_option maxHeartbeats 400000 in
theorem read_num_failed {G : Nat → Prop} {w : World} {b : Nat} {l : List UInt8} {e0 : Int} (h : Opn G w b l (some e0)) (he : e0 ≠ 0) (n : Int) :
    Calls Tryz.prog 114 #[.pointer (some ⟨b, 0, none⟩), .int .i64 n, .func (Fn.func 115) #[] #[]] w fun e w' => e = .returned (.int .u64 0) ∧ Opn G w' b l (some e0) ∧ Kp (fun k => k = b) w w' := by
  have H := Lib.hid h
  obtain ⟨_, A0, c0, fv, hx, _, _, _, _, g, rfl, _, hg⟩ := h
  have hne : (e0 == 0) = false := by simpa using he
  have hne2 : (e0 != 0) = true := by simpa using he
  go_enter Tryz.func114, Tryz.ntmps114
  go_wp2_with fail
  refine (reader_fails b g w _ hx).mono ?_
  rintro e w1 ⟨rfl, rfl⟩
  clear hx
  go_wp2_with fail
  refine (failing1 g n e0 w hg).mono ?_
  rintro e w1 ⟨rfl, q, rfl⟩
  clear hg
  go_wp2_with fail
  go_ret
  exact ⟨rfl, H.out.kp ((Kp.refl (fun _ => False) w).drewN q) (fun _ _ h => h), (Kp.refl _ w).drewN q⟩

set_option maxHeartbeats 400000 in
theorem read_num_nil (n : Int) (w : World) :
    Calls Tryz.prog 114 #[.pointer none, .int .i64 n, .func (Fn.func 115) #[] #[]] w fun e w' => e = .returned (.int .u64 0) ∧ Kp (fun _ => False) w w' := by
  go_enter Tryz.func114, Tryz.ntmps114
  go_wp2_with fail
  refine (reader_nil w).mono ?_
  rintro e w1 ⟨rfl, rfl⟩
  go_wp2_with fail
  refine (failing1 _ n 1 _ (Box.new w 47 #[.int .i64 1])).mono ?_
  rintro e w1 ⟨rfl, q, rfl⟩
  go_wp2_with fail
  go_ret
  exact ⟨rfl, ((Kp.refl _ _).alloc _).drewN q⟩

set_option maxHeartbeats 400000 in
theorem read_text_fine {G : Nat → Prop} {w : World} {b : Nat} {l : List UInt8} (h : Opn G w b l none) (n : Nat) (hn : n ≤ l.length) :
    Calls Tryz.prog 117 #[.pointer (some ⟨b, 0, none⟩), .int .i64 n, .func (Fn.func 119) #[] #[]] w fun e w' => e = .returned (.string ⟨(l.take n).toArray⟩) ∧ Opn G w' b (l.drop n) none ∧ Kp (fun k => k = b) w w' := by
  have hlen : (l.take n).length = n := by simp; omega
  have H := Lib.hid h
  obtain ⟨_, A0, c0, fv, hx, _, _, _, _, h5⟩ := h
  cases h5
  have Hl := Lib.hid hlen
  clear hlen
  go_enter Tryz.func117, Tryz.ntmps117
  go_wp2_with fail
  refine (reader_fine b w _ hx).mono ?_
  rintro e w1 ⟨rfl, rfl⟩
  clear hx
  go_wp2_with fail
  refine (next_fine H.out n hn).mono ?_
  rintro e w1 ⟨A, c, rfl, hc1, hc2, hr, _, ho, hk⟩
  have Hr := Lib.hid hr
  have Ho := Lib.hid ho
  have Hk := Lib.hid hk
  clear hr ho hk
  go_wp2_with fail
  have ht := text1_rd A c (l.take n) w1 Hr.out
  rw [Hl.out] at ht
  refine ht.mono ?_
  rintro e w2 ⟨rfl, rfl⟩
  go_wp2_with fail
  go_ret
  exact ⟨rfl, Ho.out, Hk.out⟩

set_option maxHeartbeats 400000 in
theorem read_text_short {G : Nat → Prop} {w : World} {b : Nat} {l : List UInt8} (h : Opn G w b l none) (hG : G w.heap.size) (n : Int) (hn : n < 0 ∨ (l.length : Int) < n) :
    Calls Tryz.prog 117 #[.pointer (some ⟨b, 0, none⟩), .int .i64 n, .func (Fn.func 119) #[] #[]] w fun e w' => e = .returned (.string ⟨#[]⟩) ∧ Opn G w' b l (some 3) ∧ Kp (fun k => k = b) w w' := by
  have H := Lib.hid h
  have Hn := Lib.hid hn
  obtain ⟨_, A0, c0, fv, hx, _, _, _, _, h5⟩ := h
  cases h5
  clear hn
  go_enter Tryz.func117, Tryz.ntmps117
  go_wp2_with fail
  refine (reader_fine b w _ hx).mono ?_
  rintro e w1 ⟨rfl, rfl⟩
  clear hx
  go_wp2_with fail
  refine (next_fails H.out hG n Hn.out).mono ?_
  rintro e w1 ⟨rfl, ho, hk⟩
  have Ho := Lib.hid ho
  have Hk := Lib.hid hk
  clear ho hk
  go_wp2_with fail
  go_ret
  exact ⟨rfl, Ho.out, Hk.out⟩

set_option maxHeartbeats 400000 in
theorem read_text_failed {G : Nat → Prop} {w : World} {b : Nat} {l : List UInt8} {e0 : Int} (h : Opn G w b l (some e0)) (he : e0 ≠ 0) (n : Int) :
    Calls Tryz.prog 117 #[.pointer (some ⟨b, 0, none⟩), .int .i64 n, .func (Fn.func 119) #[] #[]] w fun e w' => e = .returned (.string ⟨#[]⟩) ∧ Opn G w' b l (some e0) ∧ Kp (fun k => k = b) w w' := by
  have H := Lib.hid h
  obtain ⟨_, A0, c0, fv, hx, _, _, _, _, g, rfl, _, hg⟩ := h
  have hne : (e0 == 0) = false := by simpa using he
  have hne2 : (e0 != 0) = true := by simpa using he
  go_enter Tryz.func117, Tryz.ntmps117
  go_wp2_with fail
  refine (reader_fails b g w _ hx).mono ?_
  rintro e w1 ⟨rfl, rfl⟩
  clear hx
  go_wp2_with fail
  refine (failing1 g n e0 w hg).mono ?_
  rintro e w1 ⟨rfl, q, rfl⟩
  clear hg
  go_wp2_with fail
  go_ret
  exact ⟨rfl, H.out.kp ((Kp.refl (fun _ => False) w).drewN q) (fun _ _ h => h), (Kp.refl _ w).drewN q⟩

set_option maxHeartbeats 400000 in
theorem read_text_nil (n : Int) (w : World) :
    Calls Tryz.prog 117 #[.pointer none, .int .i64 n, .func (Fn.func 119) #[] #[]] w fun e w' => e = .returned (.string ⟨#[]⟩) ∧ Kp (fun _ => False) w w' := by
  go_enter Tryz.func117, Tryz.ntmps117
  go_wp2_with fail
  refine (reader_nil w).mono ?_
  rintro e w1 ⟨rfl, rfl⟩
  go_wp2_with fail
  refine (failing1 _ n 1 _ (Box.new w 47 #[.int .i64 1])).mono ?_
  rintro e w1 ⟨rfl, q, rfl⟩
  go_wp2_with fail
  go_ret
  exact ⟨rfl, ((Kp.refl _ _).alloc _).drewN q⟩

set_option maxHeartbeats 400000 in
theorem read_name_fine {G : Nat → Prop} {w : World} {b : Nat} {x : UInt8} {l : List UInt8} (h : Opn G w b (x :: l) none) (n : Nat) (hn : n ≤ l.length) :
    Calls Tryz.prog 117 #[.pointer (some ⟨b, 0, none⟩), .int .i64 (n + 1 : Nat), .func (Fn.func 118) #[] #[]] w fun e w' => e = .returned (.string ⟨(l.take n).toArray⟩) ∧ Opn G w' b (l.drop n) none ∧ Kp (fun k => k = b) w w' := by
  have hlen : (l.take n).length = n := by simp; omega
  have H := Lib.hid h
  obtain ⟨_, A0, c0, fv, hx, _, _, _, _, h5⟩ := h
  cases h5
  have Hl := Lib.hid hlen
  clear hlen
  have Hn : Hid (n + 1 ≤ (x :: l).length) := by show n + 1 ≤ l.length + 1; omega
  obtain ⟨m, hm⟩ : ∃ m : Nat, m = n + 1 := ⟨_, rfl⟩
  rw [← hm]
  have Hm := Lib.hid hm
  clear hm
  go_enter Tryz.func117, Tryz.ntmps117
  go_wp2_with fail
  refine (reader_fine b w _ hx).mono ?_
  rintro e w1 ⟨rfl, rfl⟩
  clear hx
  go_wp2_with fail
  refine (next_fine H.out m (by rw [Hm.out]; exact Hn.out)).mono ?_
  rintro e w1 ⟨A, c, rfl, hc1, hc2, hr, _, ho, hk⟩
  rw [Hm.out] at hr ho hc1
  have Hr := Lib.hid hr
  have Ho := Lib.hid ho
  have Hk := Lib.hid hk
  clear hr ho hk
  go_wp2_with fail
  have ht := name1_rd A c x (l.take n) w1 (by rw [Hl.out]; exact hc1) hc2 Hr.out
  rw [Hl.out, ← Hm.out] at ht
  refine ht.mono ?_
  rintro e w2 ⟨rfl, rfl⟩
  go_wp2_with fail
  go_ret
  exact ⟨rfl, Ho.out, Hk.out⟩

set_option maxHeartbeats 400000 in
theorem read_name_short {G : Nat → Prop} {w : World} {b : Nat} {l : List UInt8} (h : Opn G w b l none) (hG : G w.heap.size) (n : Int) (hn : n < 0 ∨ (l.length : Int) < n) :
    Calls Tryz.prog 117 #[.pointer (some ⟨b, 0, none⟩), .int .i64 n, .func (Fn.func 118) #[] #[]] w fun e w' => e = .returned (.string ⟨#[]⟩) ∧ Opn G w' b l (some 3) ∧ Kp (fun k => k = b) w w' := by
  have H := Lib.hid h
  have Hn := Lib.hid hn
  obtain ⟨_, A0, c0, fv, hx, _, _, _, _, h5⟩ := h
  cases h5
  clear hn
  go_enter Tryz.func117, Tryz.ntmps117
  go_wp2_with fail
  refine (reader_fine b w _ hx).mono ?_
  rintro e w1 ⟨rfl, rfl⟩
  clear hx
  go_wp2_with fail
  refine (next_fails H.out hG n Hn.out).mono ?_
  rintro e w1 ⟨rfl, ho, hk⟩
  have Ho := Lib.hid ho
  have Hk := Lib.hid hk
  clear ho hk
  go_wp2_with fail
  go_ret
  exact ⟨rfl, Ho.out, Hk.out⟩

set_option maxHeartbeats 400000 in
theorem read_name_failed {G : Nat → Prop} {w : World} {b : Nat} {l : List UInt8} {e0 : Int} (h : Opn G w b l (some e0)) (he : e0 ≠ 0) (n : Int) :
    Calls Tryz.prog 117 #[.pointer (some ⟨b, 0, none⟩), .int .i64 n, .func (Fn.func 118) #[] #[]] w fun e w' => e = .returned (.string ⟨#[]⟩) ∧ Opn G w' b l (some e0) ∧ Kp (fun k => k = b) w w' := by
  have H := Lib.hid h
  obtain ⟨_, A0, c0, fv, hx, _, _, _, _, g, rfl, _, hg⟩ := h
  have hne : (e0 == 0) = false := by simpa using he
  have hne2 : (e0 != 0) = true := by simpa using he
  go_enter Tryz.func117, Tryz.ntmps117
  go_wp2_with fail
  refine (reader_fails b g w _ hx).mono ?_
  rintro e w1 ⟨rfl, rfl⟩
  clear hx
  go_wp2_with fail
  refine (failing1 g n e0 w hg).mono ?_
  rintro e w1 ⟨rfl, q, rfl⟩
  clear hg
  go_wp2_with fail
  go_ret
  exact ⟨rfl, H.out.kp ((Kp.refl (fun _ => False) w).drewN q) (fun _ _ h => h), (Kp.refl _ w).drewN q⟩

set_option maxHeartbeats 400000 in
theorem read_name_nil (n : Int) (w : World) :
    Calls Tryz.prog 117 #[.pointer none, .int .i64 n, .func (Fn.func 118) #[] #[]] w fun e w' => e = .returned (.string ⟨#[]⟩) ∧ Kp (fun _ => False) w w' := by
  go_enter Tryz.func117, Tryz.ntmps117
  go_wp2_with fail
  refine (reader_nil w).mono ?_
  rintro e w1 ⟨rfl, rfl⟩
  go_wp2_with fail
  refine (failing1 _ n 1 _ (Box.new w 47 #[.int .i64 1])).mono ?_
  rintro e w1 ⟨rfl, q, rfl⟩
  go_wp2_with fail
  go_ret
  exact ⟨rfl, ((Kp.refl _ _).alloc _).drewN q⟩

end Go.Proofs.YtfcljcikajaedaaGreatDoor

/- What the opener's generic reader answers at hashes, which are arrays and live in blocks of their own. -/
namespace Go.Proofs.YtfcljcikajaedaaGreatDoor
open Go.RowKit

theorem Kp.setRow {S : Nat → Prop} {w w' : World} (h : Kp S w w') {g : Nat} (hp : w.heap.size ≤ g ∨ S g) (cs : Array Value) : Kp S w (w'.setRow g cs) :=
  ⟨h.os, h.tape, h.output, by have := h.size; simpa using this, fun k hk hs => by
    rw [setRow_other w' g k cs (by rintro rfl; rcases hp with hp | hp; omega; exact hs hp)]
    exact h.block k hk hs⟩
theorem Box.setRow {w : World} {g : Nat} {t : TypeId} {cs : Array Value} (h : Box w g t cs) (cs' : Array Value) : Box (w.setRow g cs') g t cs' := setRow_heap w g cs cs' t (0, 0) h
def zeros32 : List UInt8 := List.replicate 32 0
theorem zeros32_length : zeros32.length = 32 := rfl
theorem zero_bcs : (#[Value.int IntKind.u8 0, Value.int IntKind.u8 0, Value.int IntKind.u8 0, Value.int IntKind.u8 0, Value.int IntKind.u8 0, Value.int IntKind.u8 0, Value.int IntKind.u8 0, Value.int IntKind.u8 0, Value.int IntKind.u8 0, Value.int IntKind.u8 0, Value.int IntKind.u8 0, Value.int IntKind.u8 0, Value.int IntKind.u8 0, Value.int IntKind.u8 0, Value.int IntKind.u8 0, Value.int IntKind.u8 0, Value.int IntKind.u8 0, Value.int IntKind.u8 0, Value.int IntKind.u8 0, Value.int IntKind.u8 0, Value.int IntKind.u8 0, Value.int IntKind.u8 0, Value.int IntKind.u8 0, Value.int IntKind.u8 0, Value.int IntKind.u8 0, Value.int IntKind.u8 0, Value.int IntKind.u8 0, Value.int IntKind.u8 0, Value.int IntKind.u8 0, Value.int IntKind.u8 0, Value.int IntKind.u8 0, Value.int IntKind.u8 0] : Array Value) = (bcs zeros32).toArray := by rfl
theorem Opn.on {G : Nat → Prop} {w w' : World} {b g : Nat} {l : List UInt8} {f : Option Int} (h : Opn (fun k => G k ∧ k ≠ g) w b l f) (hk : Kp (fun k => k = g) w w') : Opn G w' b l f :=
  (h.kp hk fun _ hk => hk.2).mono fun _ hk => hk.1
theorem Kp.laid (w : World) (o : Obj) (g : Nat) (cs : Array Value) : Kp (fun k => k = g) w ((w.alloc o).setRow g cs) := ((Kp.refl (fun k => k = g) w).alloc o).setRow (.inr rfl) cs

end Go.Proofs.YtfcljcikajaedaaGreatDoor

/- An opener's calls where what is asked for is there, and of no opener. -/
namespace Go.Proofs.YtfcljcikajaedaaGreatDoor
open Go.RowKit

/-- A width that may be. -/
def wdB (n : Int) : Bool := n == 1 || n == 2 || n == 4 || n == 8
theorem wdB_nat {n : Nat} (h : wdB n = true) : n = 1 ∨ n = 2 ∨ n = 4 ∨ n = 8 := by
  simp [wdB] at h
  omega

set_option maxHeartbeats 400000 in
theorem isWidth_any (n : Int) (w : World) :
    Calls Tryz.prog 113 #[.int .i64 n] w fun e w' => e = .returned (.bool (wdB n)) ∧ w = w' := by
  go_enter Tryz.func113, Tryz.ntmps113
  go_wp2
  all_goals go_ret
  all_goals refine ⟨?_, rfl⟩
  all_goals (subst_vars; first | rfl | simp [wdB])

section
variable {G : Nat → Prop} {w : World} {b : Nat} {l : List UInt8}

set_option maxHeartbeats 400000 in
theorem take_fine (h : Opn G w b l none) (n : Nat) (hw : wdB n = true) (hn : n ≤ l.length) :
    Calls Tryz.prog 89 #[.pointer (some ⟨b, 0, none⟩), .int .i64 n] w fun e w' => e = .returned (.int .u64 (numN (l.take n))) ∧ Opn G w' b (l.drop n) none ∧ Kp (fun k => k = b) w w' := by
  have H := Lib.hid h
  have h8 : n ≤ 8 := by have := wdB_nat hw; omega
  clear h
  go_enter Tryz.func89, Tryz.ntmps89
  go_wp2_with fail
  refine (isWidth_any _ _).mono ?_
  rintro e w1 ⟨rfl, rfl⟩
  go_wp2_with fail
  refine (read_num_fine H.out n hn h8).mono ?_
  rintro e w1 ⟨rfl, ho, hk⟩
  have Ho := Lib.hid ho
  have Hk := Lib.hid hk
  clear ho hk
  go_wp2_with fail
  go_ret
  exact ⟨rfl, Ho.out, Hk.out⟩

set_option maxHeartbeats 400000 in
theorem take_nil (n : Int) (w : World) :
    Calls Tryz.prog 89 #[.pointer none, .int .i64 n] w fun e w' => e = .returned (.int .u64 0) ∧ Kp (fun _ => False) w w' := by
  rcases hw : wdB n with _ | _
  all_goals
    go_enter Tryz.func89, Tryz.ntmps89
    go_wp2_with fail
    refine (isWidth_any _ _).mono ?_
    rintro e w1 ⟨rfl, rfl⟩
    go_wp2_with fail
    refine (read_num_nil _ _).mono ?_
    rintro e w1 ⟨rfl, hk⟩
    have Hk := Lib.hid hk
    clear hk
    go_wp2_with fail
    go_ret
    exact ⟨rfl, Hk.out⟩

set_option maxHeartbeats 400000 in
theorem otext_fine (h : Opn G w b l none) (n : Nat) (hn : n ≤ l.length) :
    Calls Tryz.prog 92 #[.pointer (some ⟨b, 0, none⟩), .int .i64 n] w fun e w' => e = .returned (.string ⟨(l.take n).toArray⟩) ∧ Opn G w' b (l.drop n) none ∧ Kp (fun k => k = b) w w' := by
  have H := Lib.hid h
  clear h
  go_enter Tryz.func92, Tryz.ntmps92
  go_wp2_with fail
  refine (read_text_fine H.out n hn).mono ?_
  rintro e w1 ⟨rfl, ho, hk⟩
  have Ho := Lib.hid ho
  have Hk := Lib.hid hk
  clear ho hk
  go_wp2_with fail
  go_ret
  exact ⟨rfl, Ho.out, Hk.out⟩

set_option maxHeartbeats 400000 in
theorem otext_nil (n : Int) (w : World) :
    Calls Tryz.prog 92 #[.pointer none, .int .i64 n] w fun e w' => e = .returned (.string ⟨#[]⟩) ∧ Kp (fun _ => False) w w' := by
  go_enter Tryz.func92, Tryz.ntmps92
  go_wp2_with fail
  refine (read_text_nil _ _).mono ?_
  rintro e w1 ⟨rfl, hk⟩
  have Hk := Lib.hid hk
  clear hk
  go_wp2_with fail
  go_ret
  exact ⟨rfl, Hk.out⟩

set_option maxHeartbeats 400000 in
theorem left_any {f : Option Int} (h : Opn G w b l f) :
    Calls Tryz.prog 116 #[.pointer (some ⟨b, 0, none⟩)] w fun e w' => e = .returned (.int .i64 l.length) ∧ w = w' := by
  obtain ⟨_, A, c, fv, hx, _, _, _, _, _⟩ := h
  have c0 := hx.cell 0
  simp at c0
  clear hx
  go_enter Tryz.func116, Tryz.ntmps116
  go_wp2_with fail
  go_ret
  exact ⟨rfl, rfl⟩

set_option maxHeartbeats 400000 in
theorem left_nil (w : World) :
    Calls Tryz.prog 116 #[.pointer none] w fun e w' => e = .returned (.int .i64 0) ∧ w = w' := by
  go_enter Tryz.func116, Tryz.ntmps116
  go_wp2_with fail
  go_ret
  exact ⟨rfl, rfl⟩

set_option maxHeartbeats 400000 in
theorem oname_fine {x : UInt8} (h : Opn G w b (x :: l) none) (hn : x.toNat ≤ l.length) :
    Calls Tryz.prog 90 #[.pointer (some ⟨b, 0, none⟩)] w fun e w' => e = .returned (.string ⟨(l.take x.toNat).toArray⟩) ∧ Opn G w' b (l.drop x.toNat) none ∧ Kp (fun k => k = b) w w' := by
  have H := Lib.hid h
  obtain ⟨_, A, c, fv, hx, h1, h2, hr, _, h5⟩ := h
  cases h5
  have c0 := hx.cell 0
  simp at c0
  rcases hr with hr | ⟨b1, o1, rfl, hc⟩
  · cases hr
  have cx := hc 0 x rfl
  simp at cx
  have hx8 := x.toNat_lt
  unfold maxLen at h2
  simp at h1
  clear hx hc
  go_enter Tryz.func90, Tryz.ntmps90
  go_wp2_with fail
  refine (left_any H.out).mono ?_
  rintro e w1 ⟨rfl, rfl⟩
  go_wp2_with fail
  rw [show (1 + (x.toNat : Int)) = ((x.toNat + 1 : Nat) : Int) from by omega]
  refine (read_name_fine H.out x.toNat hn).mono ?_
  rintro e w1 ⟨rfl, ho, hk⟩
  have Ho := Lib.hid ho
  have Hk := Lib.hid hk
  clear ho hk
  go_wp2_with fail
  go_ret
  exact ⟨rfl, Ho.out, Hk.out⟩

set_option maxHeartbeats 400000 in
theorem oname_nil (w : World) :
    Calls Tryz.prog 90 #[.pointer none] w fun e w' => e = .returned (.string ⟨#[]⟩) ∧ Kp (fun _ => False) w w' := by
  go_enter Tryz.func90, Tryz.ntmps90
  go_wp2_with fail
  refine (left_nil _).mono ?_
  rintro e w1 ⟨rfl, rfl⟩
  go_wp2_with fail
  refine (read_name_nil _ _).mono ?_
  rintro e w1 ⟨rfl, hk⟩
  have Hk := Lib.hid hk
  clear hk
  go_wp2_with fail
  go_ret
  exact ⟨rfl, Hk.out⟩

set_option maxHeartbeats 400000 in
theorem err_fine (h : Opn G w b l none) :
    Calls Tryz.prog 93 #[.pointer (some ⟨b, 0, none⟩)] w fun e w' => e = .returned (.int .i64 0) ∧ Opn G w' b l none ∧ Kp (fun k => k = b) w w' := by
  have H := Lib.hid h
  obtain ⟨_, A, c, fv, hx, _, _, _, _, h5⟩ := h
  cases h5
  go_enter Tryz.func93, Tryz.ntmps93
  go_wp2_with fail
  refine (reader_fine b w _ hx).mono ?_
  rintro e w1 ⟨rfl, rfl⟩
  clear hx
  go_wp2_with fail
  have hnx := next_fine H.out 0 (Nat.zero_le _)
  rw [show ((0 : Nat) : Int) = 0 from rfl] at hnx
  refine hnx.mono ?_
  rintro e w1 ⟨A1, c1, rfl, _, _, _, _, ho, hk⟩
  have Ho := Lib.hid ho
  have Hk := Lib.hid hk
  clear ho hk hnx
  go_wp2_with fail
  go_ret
  exact ⟨rfl, Ho.out, Hk.out⟩

set_option maxHeartbeats 400000 in
theorem err_nil (w : World) :
    Calls Tryz.prog 93 #[.pointer none] w fun e w' => e = .returned (.int .i64 1) ∧ Kp (fun _ => False) w w' := by
  go_enter Tryz.func93, Tryz.ntmps93
  go_wp2_with fail
  refine (reader_nil w).mono ?_
  rintro e w1 ⟨rfl, rfl⟩
  go_wp2_with fail
  refine (failing1 _ 0 1 _ (Box.new w 47 #[.int .i64 1])).mono ?_
  rintro e w1 ⟨rfl, q, rfl⟩
  go_wp2_with fail
  go_ret
  exact ⟨rfl, ((Kp.refl _ _).alloc _).drewN q⟩

end

end Go.Proofs.YtfcljcikajaedaaGreatDoor

/- Bytes appended to a row that the program made itself, whatever they are: nil, none, or some. The sum is at most 2^47 bytes. -/
namespace Go.Proofs.YtfcljcikajaedaaGreatDoor
open Go.RowKit

section
variable {P : Program} (w : World)

theorem run_put_nil (base : Nat) (t ty e : TypeId) (i : TypeInfo) (ht : P.underlying t = some (.slice e)) (hi : P.info? e = some i)
    (v : Value) (n : Nat) (xs : List Value) (hown : w.ownsRow base e 1 v n xs) (c : Nat) : (Builtin.append_ #[t, t] ty #[v, .slice none 0 c]).run P w = .ok v w := by
  rcases hown.2 with ⟨rfl, rfl⟩ | ⟨g, cap, cur, rfl, _, _, hnc, _⟩
  · simp [Builtin.append_, run_underlying ht, sizeOf, typeInfo, hi, Builtin.lenOf, Builtin.firstCells]
  · simp [Builtin.append_, run_underlying ht, sizeOf, typeInfo, hi, Builtin.lenOf, Builtin.firstCells, hnc, storeCells]

theorem run_put (t ty e : TypeId) (i : TypeInfo) (ht : P.underlying t = some (.slice e)) (hi : P.info? e = some i) (hz : i.zero = some (.int .u8 0)) (hsize : i.size = 1) (hby : i.bytes = 1)
    (v : Value) (l s : List UInt8) (hown : w.ownsRow 0 e 1 v l.length (bcs l)) (A : Option Addr) (c : Nat) (hr : Rd w A s) (hlen : l.length + s.length ≤ 140737488355328) :
    ∃ v' w', (Builtin.append_ #[t, t] ty #[v, .slice A s.length c]).run P w = .ok v' w' ∧ w'.ownsRow 0 e 1 v' (l ++ s).length (bcs (l ++ s)) ∧ w.grownBy w' v.ownBlock ∧ (v'.ownBlock = v.ownBlock ∨ v'.ownBlock = some w.heap.size) := by
  rcases hr with rfl | ⟨b, o, rfl, hc⟩
  · rcases A with _ | a
    · exact ⟨v, w, run_put_nil w 0 t ty e i ht hi v _ _ hown c, by simpa using hown, ⟨rfl, rfl, rfl, Nat.le_refl _, fun _ _ _ => rfl⟩, .inl rfl⟩
    · obtain ⟨v', w', h1, h2, h3, _, h5⟩ := run_append_own_at (P := P) w 0 t ty e i _ 1 1 ht hi hz hsize hby rfl (by omega) v _ _ hown a 0 c [] rfl (by intro j u hu; simp at hu) (by simp) (by simp only [maxLen]; simp at hlen; omega) (by simp at hlen; omega) (Nat.zero_le _)
      exact ⟨v', w', h1, by simpa using h2, h3, h5⟩
  · obtain ⟨v', w', h1, h2, h3, _, h5⟩ := run_append_own_at (P := P) w 0 t ty e i _ 1 1 ht hi hz hsize hby rfl (by omega) v _ _ hown ⟨b, o, none⟩ s.length c (bcs s) (by rw [bcs_length, Nat.mul_one])
      (by
        intro j u hu
        rw [bcs_get] at hu
        obtain ⟨x, hx, rfl⟩ := Option.map_eq_some_iff.1 hu
        have := hc j x hx
        have e : (⟨b, o, none⟩ : Addr).add j = ⟨b, o + j, none⟩ := by unfold Addr.add; split <;> simp_all
        rw [e]
        exact this)
      (bcs_one s) (by simp only [maxLen]; omega) (by omega) (Nat.zero_le _)
    exact ⟨v', w', h1, by simpa [bcs_append] using h2, h3, h5⟩

theorem wpList_put {ops : Array Oper} {rest : List Oper} {o : Oper} {a : Act} {Q : Exit → Act → World → Prop} (hgd : o.guard = none) (x y : Operand) (t : TypeId)
    (ho : o.op = .call { callee := .builtin .append, args := #[x, y], argTypes := #[t, t] })
    (e : TypeId) (i : TypeInfo) (ht : P.underlying t = some (.slice e)) (hi : P.info? e = some i) (hz : i.zero = some (.int .u8 0)) (hsize : i.size = 1) (hby : i.bytes = 1)
    (v : Value) (hx : a.eval x = v) (l s : List UInt8) (hown : w.ownsRow 0 e 1 v l.length (bcs l)) (A : Option Addr) (m c : Nat) (hy : a.eval y = .slice A m c) (hm : s.length = m) (hr : Rd w A s) (hlen : l.length + s.length ≤ 140737488355328)
    (h : ∀ v' w', w'.ownsRow 0 e 1 v' (l ++ s).length (bcs (l ++ s)) → w.grownBy w' v.ownBlock → (v'.ownBlock = v.ownBlock ∨ v'.ownBlock = some w.heap.size) → wpList P ops Q rest (a.put o.dst v') w') : wpList P ops Q (o :: rest) a w :=
  wpList_plain hgd fun _ hK => by
    subst hm
    obtain ⟨v', w', hrun, h2, h3, h4⟩ := run_put (P := P) w t o.type e i ht hi hz hsize hby v l s hown A c hr hlen
    unfold Oper.wp execOp
    simp only [ho, resolve, invoke, builtin, Sem.run_bind, Sem.run_pure, Result.andThen_ok, List.map_toArray, List.map_cons, List.map_nil, hx, hy, hrun]
    exact hK _ _ (h v' w' h2 h3 h4)
end

end Go.Proofs.YtfcljcikajaedaaGreatDoor

/- What a packer's calls do: its state is the bytes that were put and its error. -/
namespace Go.Proofs.YtfcljcikajaedaaGreatDoor
open Go.RowKit

theorem info_byte : (Tryz.prog.info? 5).map (fun i => (i.zero, i.size, i.bytes)) = some (some (.int .u8 0), 1, 1) := by kernel_rfl

/-- A slice of the program's own that reads as these bytes, in blocks that are not older than B. -/
def Sl (w : World) (B : Nat) (v : Value) (l : List UInt8) : Prop :=
  ∃ A c, v = .slice A l.length c ∧ l.length ≤ c ∧ c ≤ maxLen ∧ Rd w A l ∧ (∀ a, A = some a → B ≤ a.block)

theorem sl_of_own {w : World} {B e : Nat} {v : Value} {l : List UInt8} (h : w.ownsRow 0 e 1 v ([] ++ l).length (bcs ([] ++ l))) (hB : ∀ k, v.ownBlock = some k → B ≤ k) : Sl w B v l := by
  simp only [List.nil_append] at h
  have h' := h
  rcases h.2 with ⟨rfl, h0⟩ | ⟨g, cap, cur, rfl, _, _, hcap, hm, _⟩
  · have hl : l = [] := List.eq_nil_of_length_eq_zero h0
    subst hl
    exact ⟨none, 0, rfl, Nat.le_refl _, by simp [maxLen], Rd.nil _ _, fun _ h => by cases h⟩
  · exact ⟨_, cap, rfl, hcap, hm, Rd.of_own h', fun a ha => by cases ha; exact hB g rfl⟩

theorem own_shape {w : World} {e n : Nat} {v : Value} {xs : List Value} (h : w.ownsRow 0 e 1 v n xs) : ∃ A c, v = .slice A n c := by
  rcases h.2 with ⟨rfl, rfl⟩ | ⟨g, cap, _, rfl, _⟩
  · exact ⟨_, _, rfl⟩
  · exact ⟨_, _, rfl⟩

set_option maxHeartbeats 400000 in
theorem clone_any (A : Option Addr) (c : Nat) (l : List UInt8) (w : World) (h : Rd w A l) (hlen : l.length ≤ 140737488355328) :
    Calls Tryz.prog 112 #[.slice A l.length c] w fun e w' => ∃ v, e = .returned v ∧ Sl w' w.heap.size v l ∧ Kp (fun _ => False) w w' := by
  obtain ⟨i0, hi, hz0, hz1, hz2⟩ := info_parts info_byte
  have hnil := Lib.run_eql_slice_nil (P := Tryz.prog) w 31 5 A l.length c 0 0 Tryz.underlying31
  rcases A with _ | a
  · have hl : l = [] := by
      rcases h with h | ⟨b, o, e, _⟩
      · exact h
      · cases e
    subst hl
    simp only [List.length_nil, Option.isNone_none] at hnil
    show Calls Tryz.prog 112 #[.slice none 0 c] w _
    go_enter Tryz.func112, Tryz.ntmps112
    go_wp2_with fail
    go_ret
    exact ⟨_, rfl, ⟨none, 0, rfl, Nat.le_refl _, by simp [maxLen], Rd.nil _ _, fun _ h => by cases h⟩, Kp.refl _ _⟩
  · simp only [Option.isNone_some] at hnil
    have H := Lib.hid h
    clear h
    go_enter Tryz.func112, Tryz.ntmps112
    go_wp2_with (at_builtin; refine wpList_put _ rfl (.tmp 5) (.tmp 6) 31 rfl 5 i0 Tryz.underlying31 hi hz0 hz1 hz2 _ rfl [] l (World.ownsRow_made w #[] 0 (Nat.zero_le _) (by simp [maxLen]) rfl) (some a) l.length c rfl rfl (H.out.alloc _) (by simpa using hlen) ?_)
    intro v' w1 hown hg hat
    have Hown := Lib.hid hown
    have Hg := Lib.hid hg
    have Hat := Lib.hid hat
    clear hown hg hat
    go_wp2_with fail
    go_ret
    have hk : Kp (fun k => w.heap.size ≤ k) w w1 := ((Kp.refl _ w).alloc (.cells #[] 5)).grown Hg.out (by
      intro k hk
      simp [Value.ownBlock] at hk
      exact .inl (by omega))
    refine ⟨v', rfl, sl_of_own Hown.out ?_, hk.fresh _⟩
    intro k hk
    rcases Hat.out with e | e <;> rw [e] at hk <;> simp [Value.ownBlock] at hk <;> omega

/-- The packer in block b: the bytes l were put, err its error; all its blocks are of F. -/
def Pkr (F : Nat → Prop) (w : World) (b : Nat) (l : List UInt8) (err : Int) : Prop :=
  F b ∧ ∃ v, Box w b 193 #[v, .int .i64 err] ∧ w.ownsRow 0 5 1 v l.length (bcs l) ∧ ∀ k, v.ownBlock = some k → F k

theorem own_kp {S : Nat → Prop} {w w' : World} {e : TypeId} {v : Value} {n : Nat} {xs : List Value} (h : w.ownsRow 0 e 1 v n xs) (hk : Kp S w w') (hn : ∀ k, v.ownBlock = some k → ¬ S k) : w'.ownsRow 0 e 1 v n xs := by
  refine ⟨h.1, ?_⟩
  rcases h.2 with h2 | ⟨g, cap, cur, rfl, hb, hg, r⟩
  · exact .inl h2
  · exact .inr ⟨g, cap, cur, rfl, hb, (hk.block g (lt_of_block hg) (hn g rfl)).trans hg, r⟩
theorem Pkr.kp {F S : Nat → Prop} {w w' : World} {b : Nat} {l : List UInt8} {err : Int} (h : Pkr F w b l err) (hk : Kp S w w') (hs : ∀ k, F k → ¬ S k) : Pkr F w' b l err := by
  obtain ⟨hb, v, hx, ho, hv⟩ := h
  exact ⟨hb, v, hx.kp hk (hs b hb), own_kp ho hk fun k e => hs k (hv k e), hv⟩
/-- One block of another kind may be turned. -/
theorem Pkr.kp_box {F : Nat → Prop} {w w' : World} {b g : Nat} {l : List UInt8} {err : Int} {t : TypeId} {cs : Array Value} (h : Pkr F w b l err) (hk : Kp (fun k => k = g) w w') (hg : Box w g t cs) (h1 : 193 ≠ t) (h2 : 5 ≠ t) : Pkr F w' b l err := by
  obtain ⟨hb, v, hx, ho, hv⟩ := h
  exact ⟨hb, v, hx.kp hk (hx.type_ne hg h1), own_kp ho hk fun k e e' => hg.own_ne ho h2 (by rw [e, e']), hv⟩

set_option maxHeartbeats 400000 in
theorem new_any (F : Nat → Prop) (w : World) (hF : F w.heap.size) :
    Calls Tryz.prog 96 #[] w fun e w' => e = .returned (.pointer (some ⟨w.heap.size, 0, none⟩)) ∧ Pkr F w' w.heap.size [] 0 ∧ Kp (fun _ => False) w w' := by
  go_enter Tryz.func96, Tryz.ntmps96
  go_wp2_with fail
  go_ret
  exact ⟨rfl, ⟨hF, .slice none 0 0, Box.new _ _ _, World.ownsRow_nil _ _ _ _, fun k h => by cases h⟩, (Kp.refl _ _).alloc _⟩

section
variable {F : Nat → Prop} {w : World} {b : Nat} {l : List UInt8}

set_option maxHeartbeats 400000 in
theorem add_fine (h : Pkr F w b l 0) (hF : ∀ k, w.heap.size ≤ k → F k) (s : List UInt8) (A : Option Addr) (n c : Nat) (hn : s.length = n) (hr : Rd w A s) (hlen : l.length + s.length ≤ 140737488355328) :
    Calls Tryz.prog 123 #[.pointer (some ⟨b, 0, none⟩), .slice A n c] w fun e w' => e = .returned (.pointer (some ⟨b, 0, none⟩)) ∧ Pkr F w' b (l ++ s) 0 ∧ Kp F w w' := by
  obtain ⟨i0, hi, hz0, hz1, hz2⟩ := info_parts info_byte
  obtain ⟨hb, v, hx, ho, hv⟩ := h
  have c0 := hx.cell 0
  have c1 := hx.cell 1
  simp at c0 c1
  have Hx := Lib.hid hx
  have Ho := Lib.hid ho
  have Hr := Lib.hid hr
  have Hn := Lib.hid hn
  clear hx ho hr hn
  go_enter Tryz.func123, Tryz.ntmps123
  go_wp2_with (at_builtin; refine wpList_put _ rfl (.tmp 18) (.tmp 19) 31 rfl 5 i0 Tryz.underlying31 hi hz0 hz1 hz2 v rfl l s Ho.out A n c rfl Hn.out Hr.out hlen ?_)
  intro v' w1 hown hg hat
  have hx1 := Hx.out.grown hg (fun e => Hx.out.own_ne Ho.out (by decide) e.symm)
  have c0' := hx1.cell 0
  have f0' := hx1.free 0
  simp at c0'
  have Hx1 := Lib.hid hx1
  obtain ⟨A', c', rfl⟩ := own_shape hown
  have Hown := Lib.hid hown
  have Hg := Lib.hid hg
  have Hat := Lib.hid hat
  clear hown hg hat hx1 c0 c1
  go_wp2_with fail
  go_ret
  have hf : ∀ k, (Value.slice A' (l.length + s.length) c').ownBlock = some k → F k := by
    intro k hk
    rcases Hat.out with e | e <;> rw [e] at hk
    · exact hv k hk
    · cases hk
      exact hF _ (Nat.le_refl _)
  have hx2 := Hx1.out.put 0 (.slice A' (l.length + s.length) c')
  simp at hx2
  have hne : (Value.slice A' (l.length + s.length) c').ownBlock ≠ some b := Hx1.out.own_ne Hown.out (by decide)
  refine ⟨rfl, ⟨hb, .slice A' (l.length + s.length) c', hx2, by rw [List.length_append]; exact ownsRow_setCell_other Hown.out hne _, hf⟩, ?_⟩
  exact ((Kp.refl F w).grown Hg.out fun k hk => .inr (hv k hk)).setCell (.inr hb) _

set_option maxHeartbeats 400000 in
theorem add_failed {err : Int} (h : Pkr F w b l err) (he : err ≠ 0) (v2 : Value) :
    Calls Tryz.prog 123 #[.pointer (some ⟨b, 0, none⟩), v2] w fun e w' => e = .returned (.pointer (some ⟨b, 0, none⟩)) ∧ w = w' := by
  obtain ⟨hb, v, hx, ho, hv⟩ := h
  have c1 := hx.cell 1
  simp at c1
  have hne : (err == 0) = false := by simpa using he
  clear hx ho he
  go_enter Tryz.func123, Tryz.ntmps123
  go_wp2_with fail
  go_ret
  exact ⟨rfl, rfl⟩

set_option maxHeartbeats 400000 in
theorem add_nil (v2 : Value) (w : World) :
    Calls Tryz.prog 123 #[.pointer none, v2] w fun e w' => e = .returned (.pointer none) ∧ w = w' := by
  go_enter Tryz.func123, Tryz.ntmps123
  go_wp2_with fail
  go_ret
  exact ⟨rfl, rfl⟩

set_option maxHeartbeats 400000 in
theorem fail_fine (h : Pkr F w b l 0) (e1 : Int) :
    Calls Tryz.prog 122 #[.pointer (some ⟨b, 0, none⟩), .int .i64 e1] w fun e w' => e = .returned (.pointer (some ⟨b, 0, none⟩)) ∧ Pkr F w' b [] e1 ∧ Kp F w w' := by
  obtain ⟨hb, v, hx, ho, hv⟩ := h
  have c1 := hx.cell 1
  have c0 := hx.cell 0
  have f1 := hx.free 1
  have f0 := hx.free 0
  simp at c1 c0
  have Hx := Lib.hid hx
  clear hx ho
  go_enter Tryz.func122, Tryz.ntmps122
  go_wp2_with fail
  go_ret
  have hx2 := (Hx.out.put 0 (.slice none 0 0)).put 1 (.int .i64 e1)
  simp at hx2
  refine ⟨rfl, ⟨hb, _, hx2, World.ownsRow_nil _ _ _ _, fun k h => by cases h⟩, ?_⟩
  exact ((Kp.refl F w).setCell (.inr hb) _).setCell (.inr hb) _

set_option maxHeartbeats 400000 in
theorem fail_failed {err : Int} (h : Pkr F w b l err) (he : err ≠ 0) (e1 : Int) :
    Calls Tryz.prog 122 #[.pointer (some ⟨b, 0, none⟩), .int .i64 e1] w fun e w' => e = .returned (.pointer (some ⟨b, 0, none⟩)) ∧ w = w' := by
  obtain ⟨hb, v, hx, ho, hv⟩ := h
  have c1 := hx.cell 1
  simp at c1
  have hne : (err == 0) = false := by simpa using he
  clear hx ho he
  go_enter Tryz.func122, Tryz.ntmps122
  go_wp2_with fail
  go_ret
  exact ⟨rfl, rfl⟩

set_option maxHeartbeats 400000 in
theorem fail_nil (e1 : Int) (w : World) :
    Calls Tryz.prog 122 #[.pointer none, .int .i64 e1] w fun e w' => e = .returned (.pointer none) ∧ w = w' := by
  go_enter Tryz.func122, Tryz.ntmps122
  go_wp2_with fail
  go_ret
  exact ⟨rfl, rfl⟩

end

end Go.Proofs.YtfcljcikajaedaaGreatDoor
