/- The law of pages, part 1 of 55: CrcMath Mem Num ShDefs Mem2. -/
import Derived.Lib.Hide
import Derived.WalkKit
import Derived.WalkSpells
import Derived.WalkLawsBesides
import Derived.Outline
import Derived.Deep.QuietTactic
import Derived.BigQuiet
import Derived.Laws.EntriesVeiled
import Derived.IntWalk
import Derived.Lib.Repeat
import Derived.Deep.MidRow
import Derived.Deep.WholeRow
set_option maxHeartbeats 16000000
set_option maxRecDepth 100000
namespace Go.Proofs.YtepaeliamhjgiaaGreatDoor
theorem hHd {p : Prop} (h : p) : Go.RowKit.Hid p := Go.Lib.hid h
theorem sIa {α : Type} (l : List α) (i : Nat) (a : α) : l.toArray.setIfInBounds i a = (l.set i a).toArray := List.setIfInBounds_toArray ..
theorem sI0 {α : Type} (l : List α) (a b : α) : (a :: l).set 0 b = b :: l := List.set_cons_zero ..
theorem sI1 {α : Type} (l : List α) (a b : α) (i : Nat) : (a :: l).set (i + 1) b = a :: l.set i b := List.set_cons_succ ..
end Go.Proofs.YtepaeliamhjgiaaGreatDoor
namespace Go.Proofs.YtepaeliamhjgiaaGreatDoor
def poly : Nat := 2197175160
def st1 (m : Nat) : Nat := m / 2 ^^^ (if m % 2 = 1 then poly else 0)
def stN : Nat -> Nat -> Nat
 |0, m => m
 |k + 1, m => stN k (st1 m)
def rest (s : Nat) (l : List UInt8) : Nat := l.foldl (fun r x => stN 8 (r ^^^ x.toNat)) s
def crcN (l : List UInt8) : Nat := 4294967295 - rest 4294967295 l
theorem xor_mod2 (a b : Nat) : (a ^^^ b) % 2 = (a % 2 + b % 2) % 2 := by
 have h : (a ^^^ b) % 2 ^ 1 = a % 2 ^ 1 ^^^ b % 2 ^ 1 := Nat.xor_mod_two_pow
 rw [show (2 : Nat) ^ 1 = 2 by decide] at h
 rw [h]
 rcases Nat.mod_two_eq_zero_or_one a with ha | ha <;> rcases Nat.mod_two_eq_zero_or_one b with hb | hb <;> simp [ha, hb]
theorem st1_xor (a b : Nat) : st1 (a ^^^ b) = st1 a ^^^ st1 b := by
 have hd : (a ^^^ b) / 2 = a / 2 ^^^ b / 2 := Nat.xor_div_two
 have hm := xor_mod2 a b
 unfold st1
 rw [hd, hm]
 rcases Nat.mod_two_eq_zero_or_one a with ha | ha <;> rcases Nat.mod_two_eq_zero_or_one b with hb | hb <;> simp [ha, hb]
 ·rw [Nat.xor_assoc]
 ·rw [Nat.xor_assoc, Nat.xor_assoc, Nat.xor_comm poly]
 ·rw [Nat.xor_assoc, Nat.xor_comm poly (b / 2 ^^^ poly), Nat.xor_assoc (b / 2), Nat.xor_self, Nat.xor_zero]
theorem stN_xor : ∀ k a b, stN k (a ^^^ b) = stN k a ^^^ stN k b
 |0, _, _ => rfl
 |k + 1, a, b => by rw [stN, st1_xor, stN_xor k]; rfl
theorem stN_add : ∀ j k m, stN (j + k) m = stN k (stN j m)
 |0, k, m => by rw [Nat.zero_add]; rfl
 |j + 1, k, m => by rw [show j + 1 + k = (j + k) + 1 by omega, stN, stN_add j k]; rfl
theorem st1_even (m : Nat) : st1 (m * 2) = m := by unfold st1; simp
theorem stN_shift : ∀ k m, stN k (m * 2 ^ k) = m
 |0, m => by simp [stN]
 |k + 1, m => by rw [stN, Nat.pow_succ, <- Nat.mul_assoc, st1_even, stN_shift k]
theorem st1_lt (m : Nat) (h : m < 4294967296) : st1 m < 4294967296 := by
 unfold st1
 have e : (4294967296 : Nat) = 2 ^ 32 := by decide
 rw [e] at *
 refine Nat.xor_lt_two_pow (by omega) ?_
 split <;> decide
theorem stN_lt : ∀ k m, m < 4294967296 -> stN k m < 4294967296
 |0, _, h => h
 |k + 1, m, h => stN_lt k _ (st1_lt m h)
theorem xor_low (q r : Nat) (k : Nat) (h : r < 2 ^ k) : q * 2 ^ k + r = (q * 2 ^ k) ^^^ r := by
 have h1 := Nat.shiftLeft_add_eq_or_of_lt h q
 rw [Nat.shiftLeft_eq] at h1
 rw [h1]
 apply Nat.eq_of_testBit_eq
 intro i
 rw [Nat.testBit_or, Nat.testBit_xor]
 by_cases hi : i < k
 ·have : (q * 2 ^ k).testBit i = false := by rw [Nat.testBit_mul_two_pow]; simp; omega
  rw [this]; simp
 ·have : r.testBit i = false := Nat.testBit_lt_two_pow (Nat.lt_of_lt_of_le h (Nat.pow_le_pow_right (by omega) (by omega)))
  rw [this]; simp
def tab (i : Nat) : Nat := stN 4 i
theorem stN_four (m : Nat) : stN 4 m = m / 16 ^^^ tab (m % 16) := by
 have h := xor_low (m / 16) (m % 16) 4 (Nat.mod_lt _ (by decide))
 have e : m / 16 * 2 ^ 4 + m % 16 = m := by omega
 rw [e] at h
 conv => lhs; rw [h, stN_xor, stN_shift 4]
 rfl
theorem rest_lt (s : Nat) (l : List UInt8) (hs : s < 4294967296) : rest s l < 4294967296 := by
 induction l generalizing s with
 |nil => exact hs
 |cons x l ih =>
  refine ih _ (stN_lt 8 _ ?_)
  have : x.toNat < 2 ^ 32 := Nat.lt_trans x.toNat_lt (by decide)
  exact Nat.xor_lt_two_pow (n := 32) hs this
theorem rest_append (s : Nat) (l m : List UInt8) : rest s (l ++ m) = rest (rest s l) m := List.foldl_append ..
theorem rest_snoc (s : Nat) (l : List UInt8) (x : UInt8) : rest s (l ++ [x]) = stN 8 (rest s l ^^^ x.toNat) := by rw [rest_append]; rfl
theorem xor_ones (n : Nat) (h : n < 4294967296) : 4294967295 - n = 4294967295 ^^^ n := by
 apply Nat.eq_of_testBit_eq
 intro i
 have e : (4294967295 : Nat) = 2 ^ 32 - 1 := by decide
 have h2 : (2 ^ 32 - 1 - n).testBit i = (decide (i < 32) && !n.testBit i) := by
  have := Nat.testBit_two_pow_sub_succ (n := 32) (x := n) (by simpa using h) i
  rw [<- this]
  congr 1
  omega
 rw [e, h2, Nat.testBit_xor, Nat.testBit_two_pow_sub_one]
 by_cases hi : i < 32
 ·simp [hi]
 ·have : n.testBit i = false := Nat.testBit_lt_two_pow (Nat.lt_of_lt_of_le (show n < 2 ^ 32 by simpa using h) (Nat.pow_le_pow_right (by omega) (by omega)))
  simp [hi, this]
theorem crcN_lt (l : List UInt8) : crcN l < 4294967296 := by unfold crcN; omega
def le4 (n : Nat) : List UInt8 := [UInt8.ofNat n, UInt8.ofNat (n / 256), UInt8.ofNat (n / 65536), UInt8.ofNat (n / 16777216)]
end Go.Proofs.YtepaeliamhjgiaaGreatDoor
namespace Go.Proofs.YtepaeliamhjgiaaGreatDoor
open Go.RowKit
def bcs (l : List UInt8) : List Value := l.map fun b => .int .u8 b.toNat
theorem bcs_length (l : List UInt8) : (bcs l).length = l.length := by simp [bcs]
theorem bcs_append (l m : List UInt8) : bcs (l ++ m) = bcs l ++ bcs m := by simp [bcs]
theorem bcs_get (l : List UInt8) (j : Nat) : (bcs l)[j]? = (l[j]?).map fun b => .int .u8 b.toNat := by simp [bcs]
theorem bcs_one (l : List UInt8) : ∀ u ∈ bcs l, u.oneCell' = true := by
 intro u hu
 obtain ⟨_, _, rfl⟩ := List.mem_map.1 hu
 rfl
def Box (w : World) (g : Nat) (t : TypeId) (cs : Array Value) : Prop := w.heap[g]? = some (.cells cs t (0, 0))
structure Kp (S : Nat -> Prop) (w w' : World) : Prop where
 os : w'.os = w.os
 tape : w'.tape = w.tape
 output : w'.output = w.output
 size : w.heap.size <= w'.heap.size
 block : ∀ k, k < w.heap.size -> ¬ S k -> w'.heap[k]? = w.heap[k]?
section
variable {S S' : Nat -> Prop} {w w' w1 w2 : World}
theorem Kp.refl (S : Nat -> Prop) (w : World) : Kp S w w := ⟨rfl, rfl, rfl, Nat.le_refl _, fun _ _ _ => rfl⟩
theorem Kp.trans (h : Kp S w w1) (k : Kp S w1 w2) : Kp S w w2 :=
 ⟨k.os.trans h.os, k.tape.trans h.tape, k.output.trans h.output, Nat.le_trans h.size k.size,
  fun i hi hs => (k.block i (Nat.lt_of_lt_of_le hi h.size) hs).trans (h.block i hi hs)⟩
theorem Kp.mono (h : Kp S w w') (hs : ∀ k, k < w.heap.size -> S k -> S' k) : Kp S' w w' :=
 ⟨h.os, h.tape, h.output, h.size, fun k hk hn => h.block k hk fun e => hn (hs k hk e)⟩
theorem Kp.drew (h : Kp S w w') : Kp S w w'.drew := ⟨h.os, h.tape, h.output, h.size, h.block⟩
theorem Kp.drewN (h : Kp S w w') (n : Nat) : Kp S w (w'.drewN n) := ⟨h.os, h.tape, h.output, h.size, h.block⟩
theorem Kp.alloc (h : Kp S w w') (o : Obj) : Kp S w (w'.alloc o) :=
 h.trans ⟨rfl, rfl, rfl, by simp, fun k hk _ => Below.heap_alloc _ _ _ hk⟩
theorem Kp.setCell (h : Kp S w w') {p : Addr} (hp : w.heap.size <= p.block \/ S p.block) (u : Value) : Kp S w (w'.setCell p u) :=
 ⟨h.os, h.tape, h.output, by have := h.size; simpa [World.setCell] using this, fun k hk hs => by
  rw [Below.heap_setCell _ _ _ _ (by rintro rfl; rcases hp with hp | hp; omega; exact hs hp)]
  exact h.block k hk hs⟩
theorem Kp.one (w : World) (b i : Nat) (u : Value) : Kp (fun k => k = b) w (w.setCell ⟨b, i, none⟩ u) := (Kp.refl (fun k => k = b) w).setCell (p := ⟨b, i, none⟩) (.inr rfl) u
theorem Kp.grown (h : Kp S w w1) {row : Option Nat} (hg : w1.grownBy w2 row) (hr : ∀ k, row = some k -> w.heap.size <= k \/ S k) : Kp S w w2 :=
 ⟨hg.os.trans h.os, hg.tape.trans h.tape, hg.output.trans h.output, Nat.le_trans h.size hg.size, fun k hk hs => by
  rw [hg.block k (Nat.lt_of_lt_of_le hk h.size) (by intro e; rcases hr k e.symm with hp | hp; omega; exact hs hp)]
  exact h.block k hk hs⟩
theorem Kp.fresh (h : Kp (fun k => w.heap.size <= k) w w') (S : Nat -> Prop) : Kp S w w' := h.mono fun k hk hs => by omega
theorem Kp.trans_new (h : Kp S w w1) (k : Kp S' w1 w2) (hs : ∀ b, S' b -> w.heap.size <= b \/ S b) : Kp S w w2 :=
 ⟨k.os.trans h.os, k.tape.trans h.tape, k.output.trans h.output, Nat.le_trans h.size k.size,
  fun i hi hn => (k.block i (Nat.lt_of_lt_of_le hi h.size) (fun e => by rcases hs i e with hp | hp; omega; exact hn hp)).trans (h.block i hi hn)⟩
theorem Kp.below {B : Nat} (h : Kp S w w') (hB : B <= w.heap.size) (hs : ∀ k, S k -> B <= k) : Below B w w' :=
 ⟨h.os, h.tape, h.output, h.size, fun k hk => h.block k (by omega) fun e => by have := hs k e; omega⟩
theorem Kp.cell (h : Kp S w w') {p : Addr} (hp : p.block < w.heap.size) (hn : ¬ S p.block) : w'.cell? p = w.cell? p :=
 World.cell?_of_block (w := w) (h.block p.block hp hn)
theorem Kp.frozen (h : Kp S w w') {p : Addr} (hp : p.block < w.heap.size) (hn : ¬ S p.block) : w'.frozen? p = w.frozen? p :=
 World.frozen?_of_block (w := w) (h.block p.block hp hn)
theorem Kp.of_below {B : Nat} (h : Below B w w') : Kp (fun k => B <= k) w w' :=
 ⟨h.os, h.tape, h.output, h.size, fun k _ hn => h.block k (by omega)⟩
end
section
variable {S : Nat -> Prop} {w w' : World} {g : Nat} {t : TypeId} {cs : Array Value}
theorem Box.lt (h : Box w g t cs) : g < w.heap.size := by
 rcases Nat.lt_or_ge g w.heap.size with hlt | hge
 ·exact hlt
 ·unfold Box at h; rw [Array.getElem?_eq_none hge] at h; cases h
theorem Box.cell (h : Box w g t cs) (i : Nat) : w.cell? ⟨g, i, none⟩ = cs[i]? := by unfold Box at h; simp [World.cell?, h]
theorem Box.free (h : Box w g t cs) (i : Nat) : w.frozen? ⟨g, i, none⟩ = false := by
 unfold Box at h
 simp [World.frozen?, h]
theorem Box.new (w : World) (t : TypeId) (cs : Array Value) : Box (w.alloc (.cells cs t)) w.heap.size t cs := heap_alloc_new w _
theorem Box.drew (h : Box w g t cs) : Box w.drew g t cs := h
theorem Box.drewN (h : Box w g t cs) (n : Nat) : Box (w.drewN n) g t cs := h
theorem Box.alloc (h : Box w g t cs) (o : Obj) : Box (w.alloc o) g t cs := (Below.heap_alloc w o g h.lt).trans h
theorem Box.put (h : Box w g t cs) (i : Nat) (u : Value) : Box (w.setCell ⟨g, i, none⟩ u) g t (cs.setIfInBounds i u) := by
 unfold Box at h ⊢
 simp [World.setCell, Array.getElem?_modify, h]
theorem Box.far (h : Box w g t cs) {p : Addr} (hp : g ≠ p.block) (u : Value) : Box (w.setCell p u) g t cs := (Below.heap_setCell w p u g hp).trans h
theorem Box.kp (h : Box w g t cs) (hk : Kp S w w') (hn : ¬ S g) : Box w' g t cs := (hk.block g h.lt hn).trans h
theorem Box.grown {row : Option Nat} (h : Box w g t cs) (hb : w.grownBy w' row) (hn : some g ≠ row) : Box w' g t cs := (hb.block g h.lt hn).trans h
theorem Box.type_ne {g' : Nat} {t' : TypeId} {cs' : Array Value} (h : Box w g t cs) (h' : Box w g' t' cs') (hne : t ≠ t') : g ≠ g' := by
 rintro rfl
 unfold Box at h h'
 rw [h] at h'
 injection h' with h'
 injection h' with _ ht
 exact hne ht
theorem Box.own_ne {base : Nat} {e : TypeId} {size n : Nat} {v : Value} {xs : List Value} (hg : Box w g t cs) (h : w.ownsRow base e size v n xs) (hne : e ≠ t) : v.ownBlock ≠ some g := by
 rcases h.2 with ⟨rfl, _⟩ | ⟨g', cap, cur, rfl, _, hh, _⟩
 ·simp [Value.ownBlock]
 ·intro he
  have : g' = g := by simpa [Value.ownBlock] using he
  subst this
  exact Box.type_ne (t := e) hh hg hne rfl
end
def Rd (w : World) (A : Option Addr) (l : List UInt8) : Prop :=
 l = [] \/ ∃ b o, A = some ⟨b, o, none⟩ /\ ∀ j u, l[j]? = some u -> w.cell? ⟨b, o + j, none⟩ = some (.int .u8 u.toNat)
section
variable {S : Nat -> Prop} {w w' : World} {A : Option Addr} {l : List UInt8}
theorem Rd.nil (w : World) (A : Option Addr) : Rd w A [] := .inl rfl
theorem Rd.lt (h : Rd w A l) (hl : l ≠ []) : ∃ a, A = some a /\ a.block < w.heap.size := by
 rcases h with h | ⟨b, o, rfl, hc⟩
 ·exact absurd h hl
 ·refine ⟨_, rfl, ?_⟩
  cases l with
  |nil => exact absurd rfl hl
  |cons x r => exact World.block_lt_of_cell? w ⟨b, o + 0, none⟩ (hc 0 x rfl)
theorem Rd.keep (h : Rd w A l) (hk : ∀ a i u, A = some a -> w.cell? ⟨a.block, i, none⟩ = some (.int .u8 u) -> w'.cell? ⟨a.block, i, none⟩ = w.cell? ⟨a.block, i, none⟩) : Rd w' A l := by
 rcases h with h | ⟨b, o, rfl, hc⟩
 ·exact .inl h
 ·exact .inr ⟨b, o, rfl, fun j u hu => (hk _ (o + j) u.toNat rfl (hc j u hu)).trans (hc j u hu)⟩
theorem Rd.kp (h : Rd w A l) (hk : Kp S w w') (hn : ∀ a, A = some a -> ¬ S a.block) : Rd w' A l :=
 h.keep fun a i _ ha hc => hk.cell (p := ⟨a.block, i, none⟩) (World.block_lt_of_cell? w ⟨a.block, i, none⟩ hc) (hn a ha)
theorem Rd.kp_box {g : Nat} {t : TypeId} {cs : Array Value} (h : Rd w A l) (hk : Kp (fun k => k = g) w w') (hb : Box w g t cs) (hn : ∀ (i : Nat) (u : Int), cs[i]? ≠ some (Value.int .u8 u)) : Rd w' A l :=
 h.keep fun a i u ha hc => hk.cell (p := ⟨a.block, i, none⟩) (World.block_lt_of_cell? w ⟨a.block, i, none⟩ hc) (by
  rintro rfl
  rw [hb.cell] at hc
  exact hn i u hc)
theorem Rd.drewN (h : Rd w A l) (n : Nat) : Rd (w.drewN n) A l := h
theorem Rd.alloc (h : Rd w A l) (o : Obj) : Rd (w.alloc o) A l :=
 h.keep fun a i _ _ hc => World.cell?_alloc_lt w o ⟨a.block, i, none⟩ (World.block_lt_of_cell? w ⟨a.block, i, none⟩ hc)
theorem Rd.take (h : Rd w A l) (n : Nat) : Rd w A (l.take n) := by
 rcases h with rfl | ⟨b, o, rfl, hc⟩
 ·exact .inl (by simp)
 ·refine .inr ⟨b, o, rfl, fun j u hu => hc j u ?_⟩
  rw [List.getElem?_take] at hu
  split at hu
  ·exact hu
  ·cases hu
theorem Rd.drop (h : Rd w A l) {n cap : Nat} (hc : l.length <= cap) : Rd w (if cap = n then A else A.map (·.add n)) (l.drop n) := by
 rcases Nat.lt_or_ge n l.length with hn | hn
 ·rw [if_neg (by omega)]
  rcases h with rfl | ⟨b, o, rfl, hcell⟩
  ·exact .inl (by simp)
  ·refine .inr ⟨b, o + n, ?_, fun j u hu => ?_⟩
   ·simp [Addr.add]
   ·rw [List.getElem?_drop] at hu
    have := hcell (n + j) u hu
    rwa [<- Nat.add_assoc] at this
 ·exact .inl (List.drop_eq_nil_of_le hn)
theorem Rd.of_own {base : Nat} {e : TypeId} {c n : Nat} (h : w.ownsRow base e 1 (.slice A n c) n (bcs l)) : Rd w A l := by
 rcases h.2 with ⟨h1, h2⟩ | ⟨g, cap, cur, hv, _⟩
 ·left
  have := h.1
  rw [bcs_length] at this
  exact List.eq_nil_of_length_eq_zero (by omega)
 ·injection hv with hA
  subst hA
  refine .inr ⟨g, 0, rfl, fun j u hu => ?_⟩
  have := h.cells (g := g) rfl j (.int .u8 u.toNat) (by rw [bcs_get, hu]; rfl)
  unfold Addr.add at this
  split at this
  ·next h0 => simp only [h0, Nat.add_zero]; exact this
  ·simpa using this
end
theorem Rd.text {P : Program} {w : World} {A : Option Addr} {l : List UInt8} (h : Rd w A l) (src dst e : TypeId) (c : Nat) (hs : P.underlying src = some (.slice e)) (he : P.underlying e = some (.int .u8)) (hd : P.underlying dst = some .string) :
  (convert src dst (.slice A l.length c)).run P w = .ok (.string ⟨l.toArray⟩) w := by
 rcases h with rfl | ⟨b, o, rfl, hc⟩
 ·rcases A with _ | a
  ·show (convert src dst (.slice none 0 c)).run P w = _
   rw [run_convert_bytes_string w src dst e none 0 c hs he hd]
   simp [Conv.bytesToString, ByteArray.empty, ByteArray.emptyWithCapacity]
   rfl
  ·exact run_convert_bytes_back w src dst e a c [] hs he hd (by intro j hj; simp at hj)
 ·refine run_convert_bytes_back w src dst e ⟨b, o, none⟩ c l hs he hd fun j hj => ?_
  have := hc j l[j] (List.getElem?_eq_getElem hj)
  have ha : (⟨b, o, none⟩ : Addr).add j = ⟨b, o + j, none⟩ := by unfold Addr.add; split <;> simp_all
  rw [ha]
  exact this
def numN (l : List UInt8) : Nat := l.foldl (fun n b => n * 256 + b.toNat) 0
def beN : Nat -> Nat -> List UInt8
 |0, _ => []
 |w + 1, n => beN w (n / 256) ++ [UInt8.ofNat (n % 256)]
theorem numN_snoc (l : List UInt8) (b : UInt8) : numN (l ++ [b]) = numN l * 256 + b.toNat := by simp [numN]
theorem numN_lt_aux (m : List UInt8) : ∀ l : List UInt8, numN l < 256 ^ l.length -> numN (l ++ m) < 256 ^ (l ++ m).length := by
 induction m with
 |nil => intro l h; simpa using h
 |cons b m ih =>
  intro l h
  have e : l ++ b :: m = (l ++ [b]) ++ m := by simp
  rw [e]
  refine ih _ ?_
  rw [numN_snoc]
  simp only [List.length_append, List.length_cons, List.length_nil, Nat.zero_add, Nat.pow_succ]
  have := b.toNat_lt
  omega
theorem numN_lt (l : List UInt8) : numN l < 256 ^ l.length := by simpa using numN_lt_aux l [] (by simp [numN])
theorem numN_lt8 (l : List UInt8) (h : l.length <= 8) : numN l < 18446744073709551616 := by
 have h1 := numN_lt l
 have h2 : 256 ^ l.length <= 256 ^ 8 := Nat.pow_le_pow_right (by omega) h
 have h3 : 256 ^ 8 = 18446744073709551616 := by decide
 omega
theorem take_snoc {α : Type} (l : List α) (k : Nat) (h : k < l.length) : l.take (k + 1) = l.take k ++ [l[k]] := by
 rw [List.take_succ_eq_append_getElem h]
theorem numN_take (l : List UInt8) (k : Nat) (h : k < l.length) : numN (l.take (k + 1)) = numN (l.take k) * 256 + l[k].toNat := by
 rw [take_snoc l k h, numN_snoc]
theorem beN_length : ∀ w n, (beN w n).length = w
 |0, _ => rfl
 |w + 1, n => by simp [beN, beN_length w]
theorem beN_get : ∀ w n j, j < w -> (beN w n)[j]? = some (UInt8.ofNat (n / 256 ^ (w - 1 - j) % 256))
 |0, _, j, h => by omega
 |w + 1, n, j, h => by
  rw [beN]
  rcases Nat.lt_or_ge j w with hj | hj
  ·rw [List.getElem?_append_left (by rw [beN_length]; exact hj), beN_get w (n / 256) j hj, Nat.div_div_eq_div_mul]
   have e : 256 * 256 ^ (w - 1 - j) = 256 ^ (w + 1 - 1 - j) := by
    rw [<- Nat.pow_succ']
    exact congrArg (fun k => 256 ^ k) (by omega)
   rw [e]
  ·obtain rfl : j = w := by omega
   rw [List.getElem?_append_right (by rw [beN_length]; omega), beN_length]
   simp
theorem numN_beN : ∀ w n, n < 256 ^ w -> numN (beN w n) = n
 |0, n, h => by simp at h; simp [beN, numN, h]
 |w + 1, n, h => by
  rw [Nat.pow_succ] at h
  have hm : n % 256 < 256 := Nat.mod_lt _ (by omega)
  have e : (UInt8.ofNat (n % 256)).toNat = n % 256 := by simp
  rw [beN, numN_snoc, numN_beN w (n / 256) (by omega), e]
  omega
theorem or_step (n b : Nat) (h : n * 256 + 256 <= 18446744073709551616) (hb : b < 256) : bits .or .u64 (IntKind.u64.wrap ((n : Int) * 256)) (IntKind.u64.wrap (b : Int)) = ((n * 256 + b : Nat) : Int) := by
 have e1 : IntKind.u64.wrap ((n : Int) * 256) = ((n * 256 : Nat) : Int) := by rw [IntWalk.u64_in _ (by omega)]; omega
 have e2 : IntKind.u64.wrap (b : Int) = ((b : Nat) : Int) := IntWalk.u64_in _ (by omega)
 rw [e1, e2, u64_or_nat _ _ (by omega) (by omega)]
 have := Nat.shiftLeft_add_eq_or_of_lt (i := 8) (b := b) (by omega) n
 rw [Nat.shiftLeft_eq] at this
 simp only [Nat.reducePow] at this
 rw [this]
end Go.Proofs.YtepaeliamhjgiaaGreatDoor
namespace Go.Proofs.YtepaeliamhjgiaaGreatDoor
structure Sh where
 q : Nat
 last : Bool
 t : List UInt8
theorem Sh.ext' {a b : Sh} (h1 : a.q = b.q) (h2 : a.last = b.last) (h3 : a.t = b.t) : a = b := by
 cases a; cases b; simp_all
instance : DecidableEq Sh := fun a b =>
 if h : a.q = b.q /\ a.last = b.last /\ a.t = b.t then isTrue (Sh.ext' h.1 h.2.1 h.2.2) else isFalse fun e => h ⟨congrArg Sh.q e, congrArg Sh.last e, congrArg Sh.t e⟩
def kindN (b : Bool) : Nat := if b then 2 else 1
def bodyL (q : Nat) (b : Bool) (l : List UInt8) : List UInt8 := beN 8 q ++ beN 1 (kindN b) ++ beN 2 l.length ++ l ++ List.replicate (497 - l.length) 0
def secL (q : Nat) (b : Bool) (l : List UInt8) : List UInt8 := bodyL q b l ++ le4 (crcN (bodyL q b l))
theorem bodyL_length (q : Nat) (b : Bool) (l : List UInt8) (h : l.length <= 497) : (bodyL q b l).length = 508 := by
 simp [bodyL, beN_length]; omega
theorem secL_length (q : Nat) (b : Bool) (l : List UInt8) (h : l.length <= 497) : (secL q b l).length = 512 := by
 simp [secL, bodyL_length q b l h, le4]
def rev32 (n : Nat) : Nat := ((n % 256 * 256 + n / 256 % 256) * 256 + n / 65536 % 256) * 256 + n / 16777216 % 256
theorem rev32_lt (n : Nat) : rev32 n < 4294967296 := by unfold rev32; omega
theorem ofNat_mod (n : Nat) : UInt8.ofNat (n % 256) = UInt8.ofNat n := by
 apply UInt8.toNat_inj.1
 simp
theorem beN_rev (n : Nat) : beN 4 (rev32 n) = le4 n := by
 have h1 := ofNat_mod n
 have h2 := ofNat_mod (n / 256)
 have h3 := ofNat_mod (n / 65536)
 have h4 := ofNat_mod (n / 16777216)
 simp only [beN, le4, List.nil_append, List.cons_append]
 rw [<- h1, <- h2, <- h3, <- h4]
 unfold rev32
 have l1 : n % 256 < 256 := Nat.mod_lt _ (by decide)
 have l2 : n / 256 % 256 < 256 := Nat.mod_lt _ (by decide)
 have l3 : n / 65536 % 256 < 256 := Nat.mod_lt _ (by decide)
 have l4 : n / 16777216 % 256 < 256 := Nat.mod_lt _ (by decide)
 clear h1 h2 h3 h4
 generalize n % 256 = a at *
 generalize n / 256 % 256 = b at *
 generalize n / 65536 % 256 = c at *
 generalize n / 16777216 % 256 = d at *
 have q (x y : Nat) (h : y < 256) : (x * 256 + y) / 256 = x /\ (x * 256 + y) % 256 = y := by omega
 rw [(q _ d l4).1, (q _ d l4).2, (q _ c l3).1, (q _ c l3).2, (q _ b l2).1, (q _ b l2).2, Nat.mod_eq_of_lt l1]
theorem repeat_zero (c : Nat) : Lib.repeatL [0] c = List.replicate c (0 : UInt8) := by
 induction c with
 |zero => rfl
 |succ c ih => rw [Lib.repeatL, ih, List.replicate_succ]; rfl
def tq (l : List UInt8) : Nat := numN (l.take 8)
def tl (l : List UInt8) : Bool := decide (numN ((l.drop 8).take 1) = 2)
def tn (l : List UInt8) : Nat := numN ((l.drop 9).take 2)
def tt (l : List UInt8) : List UInt8 := (l.drop 11).take (tn l)
def takeS (l : List UInt8) : Option Sh := if l.length = 512 /\ tn l <= 497 /\ secL (tq l) (tl l) (tt l) = l then some ⟨tq l, tl l, tt l⟩ else none
theorem takeS_some {l : List UInt8} {s : Sh} (h : takeS l = some s) : l.length = 512 /\ tn l <= 497 /\ secL (tq l) (tl l) (tt l) = l /\ s = ⟨tq l, tl l, tt l⟩ := by
 unfold takeS at h
 split at h
 ·next h1 => exact ⟨h1.1, h1.2.1, h1.2.2, (by injection h with h; exact h.symm)⟩
 ·cases h
theorem bodyL_eq (q : Nat) (b : Bool) (l : List UInt8) : bodyL q b l = beN 8 q ++ (beN 1 (kindN b) ++ (beN 2 l.length ++ (l ++ List.replicate (497 - l.length) 0))) := by
 simp only [bodyL, List.append_assoc]
theorem tq_secL (q : Nat) (b : Bool) (l : List UInt8) (hq : q < 18446744073709551616) : tq (secL q b l) = q := by
 unfold tq secL
 rw [bodyL_eq, List.append_assoc, List.take_left' (beN_length 8 q)]
 exact numN_beN 8 q (by simpa using hq)
theorem tk_secL (q : Nat) (b : Bool) (l : List UInt8) : numN (((secL q b l).drop 8).take 1) = kindN b := by
 unfold secL
 rw [bodyL_eq, List.append_assoc, List.drop_left' (beN_length 8 q), List.append_assoc, List.take_left' (beN_length 1 _)]
 exact numN_beN 1 _ (by cases b <;> decide)
theorem tl_secL (q : Nat) (b : Bool) (l : List UInt8) : tl (secL q b l) = b := by
 unfold tl
 rw [tk_secL]
 cases b <;> decide
theorem drop9 (q : Nat) (b : Bool) (l : List UInt8) : (secL q b l).drop 9 = beN 2 l.length ++ (l ++ (List.replicate (497 - l.length) 0 ++ le4 (crcN (bodyL q b l)))) := by
 unfold secL
 generalize crcN (bodyL q b l) = c
 rw [bodyL_eq]
 rw [show (9 : Nat) = 8 + 1 by rfl, <- List.drop_drop, List.append_assoc, List.drop_left' (beN_length 8 q), List.append_assoc, List.drop_left' (beN_length 1 _)]
 simp only [List.append_assoc]
theorem tn_secL (q : Nat) (b : Bool) (l : List UInt8) (h : l.length <= 497) : tn (secL q b l) = l.length := by
 unfold tn
 rw [drop9, List.take_left' (beN_length 2 _)]
 exact numN_beN 2 _ (by omega)
theorem tt_secL (q : Nat) (b : Bool) (l : List UInt8) (h : l.length <= 497) : tt (secL q b l) = l := by
 unfold tt
 rw [tn_secL q b l h, show (11 : Nat) = 9 + 2 by rfl, <- List.drop_drop, drop9, List.drop_left' (beN_length 2 _), List.take_left' rfl]
theorem takeS_secL (q : Nat) (b : Bool) (l : List UInt8) (hq : q < 18446744073709551616) (h : l.length <= 497) : takeS (secL q b l) = some ⟨q, b, l⟩ := by
 unfold takeS
 rw [tq_secL q b l hq, tl_secL, tt_secL q b l h, tn_secL q b l h, if_pos ⟨secL_length q b l h, h, rfl⟩]
theorem takeS_kind {l : List UInt8} (h : numN ((l.drop 8).take 1) ≠ 1) (h2 : numN ((l.drop 8).take 1) ≠ 2) : takeS l = none := by
 rcases hm : takeS l with _ | s
 ·rfl
 ·obtain ⟨_, _, h3, _⟩ := takeS_some hm
  have := tk_secL (tq l) (tl l) (tt l)
  rw [h3] at this
  cases hb : tl l <;> rw [hb] at this <;> simp only [kindN] at this
  ·exact absurd this h
  ·exact absurd this h2
def need (n : Nat) : Nat := (n - 1) / 497 + 1
def shAt (q : Nat) (l : List UInt8) (i : Nat) : Sh := ⟨(q + i) % 18446744073709551616, i + 1 == need l.length, (l.drop (497 * i)).take 497⟩
def cutL (q : Nat) (l : List UInt8) : List Sh := (List.range (need l.length)).map (shAt q l)
theorem cutL_length (q : Nat) (l : List UInt8) : (cutL q l).length = need l.length := by simp [cutL]
theorem need_pos (n : Nat) : 0 < need n := Nat.succ_pos _
theorem cutL_get (q : Nat) (l : List UInt8) (i : Nat) (h : i < need l.length) : (cutL q l)[i]? = some (shAt q l i) := by simp [cutL, h]
theorem cutL_take (q : Nat) (l : List UInt8) (i : Nat) (h : i < need l.length) : (cutL q l).take (i + 1) = (cutL q l).take i ++ [shAt q l i] := by
 rw [List.take_add_one, cutL_get q l i h]; rfl
theorem shAt_le (q : Nat) (l : List UInt8) (i : Nat) : (shAt q l i).t.length <= 497 := by simp [shAt]; omega
theorem shAt_lt (q : Nat) (l : List UInt8) (i : Nat) : (shAt q l i).q < 18446744073709551616 := Nat.mod_lt _ (by decide)
end Go.Proofs.YtepaeliamhjgiaaGreatDoor
namespace Go.Proofs.YtepaeliamhjgiaaGreatDoor
open Go.RowKit
section
variable {S : Nat -> Prop} {w w' : World} {g : Nat} {t : TypeId}
theorem Box.writes (vs : List Value) : ∀ (o : Nat) (w : World) (L : List Value), Box w g t L.toArray -> o + vs.length <= L.length -> Box (w.setCells g o vs) g t (L.take o ++ vs ++ L.drop (o + vs.length)).toArray := by
 induction vs with
 |nil => intro o w L h _; simpa [World.setCells] using h
 |cons v r ih =>
  intro o w L h hl
  simp only [List.length_cons] at hl
  have h1 := h.put o v
  rw [List.setIfInBounds_toArray] at h1
  have h2 := ih (o + 1) _ _ h1 (by simp; omega)
  rw [World.setCells]
  have e : (L.set o v).take (o + 1) ++ r ++ (L.set o v).drop (o + 1 + r.length) = L.take o ++ v :: r ++ L.drop (o + (v :: r).length) := by
   rw [List.drop_set_of_lt (by omega), List.take_set, List.length_cons, show o + 1 + r.length = o + (r.length + 1) by omega]
   have : (L.take (o + 1)).set o v = L.take o ++ [v] := by
    rw [List.take_succ_eq_append_getElem (by omega), List.set_append_right _ _ (by simp; omega)]
    simp [Nat.min_eq_left (show o <= L.length by omega)]
   rw [this]
   simp
  rw [e] at h2
  exact h2
theorem Box.write {L vs : List Value} (h : Box w g t L.toArray) (hl : vs.length = L.length) : Box (w.setCells g 0 vs) g t vs.toArray := by
 have := Box.writes vs 0 w L h (by omega)
 simpa [hl] using this
theorem Kp.setCells (vs : List Value) : ∀ (o : Nat) (w1 : World), Kp S w w1 -> (w.heap.size <= g \/ S g) -> Kp S w (w1.setCells g o vs) := by
 induction vs with
 |nil => intro o w1 h _; exact h
 |cons v r ih => intro o w1 h hg; exact ih (o + 1) _ (h.setCell (p := ⟨g, o, none⟩) hg v) hg
theorem Box.range' {L : List Value} (h : Box w g t L.toArray) : w.rangeAt g 0 L := fun j v hj => by
 rw [h.cell, Nat.zero_add]
 simpa using hj
theorem Box.there {L : List Value} (h : Box w g t L.toArray) : w.there g 0 L.toArray.size := fun j hj => by
 rw [h.cell, h.free, Nat.zero_add]
 exact ⟨by simpa using hj, rfl⟩
end
theorem run_index_agg {P : Program} (w : World) (t e : TypeId) (n : Nat) (k : IntKind) (q : IntKind) (cs : Array Value) (i : Nat) (v : Value) (inf : TypeInfo) (ht : P.underlying t = some (.array n e)) (he : P.underlying e = some (.int q)) (hi : P.info? e = some inf) (hs : inf.size = 1) (hl : i < n) (hc : cs[i]? = some v) :
  (Instr.index t (.agg cs) (.int k (i : Int))).run P w = .ok v w := by
 have h1 : (0 : Int) <= i := by omega
 simp [Instr.index, run_underlying ht, asIntOf, part, isAgg, run_underlying he, sizeOf, typeInfo, hi, hs, hc]
 intro; omega
end Go.Proofs.YtepaeliamhjgiaaGreatDoor
