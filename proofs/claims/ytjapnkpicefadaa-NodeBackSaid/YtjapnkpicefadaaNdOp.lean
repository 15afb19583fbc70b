/- An opener in whatever state, apart from other blocks; a node that is being read. No condition. -/
import Derived.Test.YtjapnkpicefadaaNdMem
import Derived.Maps.AppendAt
import Derived.Deep.AppendLies
namespace Go.Proofs.Ytjapnkpicefadaa
open Go.RowKit

def flS : Bool → Option Int
  | true => some 3
  | false => none
/-- The opener in block b is in the state s; its blocks are not older than B, and none of X. -/
def Oi (B : Nat) (X : Nat → Prop) (w : World) (b : Nat) (s : List UInt8 × Bool) : Prop := ∃ G : Nat → Prop, Opn G w b s.1 (flS s.2) ∧ ∀ k, G k → B ≤ k ∧ k < w.heap.size ∧ ¬ X k
section
variable {B b : Nat} {X X' S : Nat → Prop} {w w' : World} {s : List UInt8 × Bool}
theorem Oi.step (h : Oi B X w b s) (hk : Kp S w w') (hS : ∀ k, S k → X k ∨ w.heap.size ≤ k) (hX : ∀ k, X' k → X k ∨ w.heap.size ≤ k) : Oi B X' w' b s := by
  obtain ⟨G, ho, hg⟩ := h
  refine ⟨G, ho.kp hk fun k g e => ?_, fun k g => ?_⟩
  · obtain ⟨_, h2, h3⟩ := hg k g
    rcases hS k e with h | h
    · exact h3 h
    · omega
  · obtain ⟨h1, h2, h3⟩ := hg k g
    refine ⟨h1, Nat.lt_of_lt_of_le h2 hk.size, fun e => ?_⟩
    rcases hX k e with h | h
    · exact h3 h
    · omega
theorem Oi.nb (h : Oi B X w b s) : ¬ X b ∧ B ≤ b ∧ b < w.heap.size := by
  obtain ⟨G, ho, hg⟩ := h
  have := hg b ho.1
  exact ⟨this.2.2, this.1, this.2.1⟩
theorem Oi.grow (h : Oi B X w b s) (hX : ∀ k, X k → k < w.heap.size) (hB : B ≤ w.heap.size) : ∃ G : Nat → Prop, Opn G w b s.1 (flS s.2) ∧ G w.heap.size ∧ ∀ k, G k → B ≤ k ∧ ¬ X k := by
  obtain ⟨G, ho, hg⟩ := h
  refine ⟨fun k => G k ∨ w.heap.size ≤ k, ho.mono fun k g => .inl g, .inr (Nat.le_refl _), fun k g => ?_⟩
  rcases g with g | g
  · exact ⟨(hg k g).1, (hg k g).2.2⟩
  · exact ⟨Nat.le_trans hB g, fun e => by have := hX k e; omega⟩
theorem Oi.back {G : Nat → Prop} (ho : Opn G w' b s.1 (flS s.2)) (hg : ∀ k, G k → B ≤ k ∧ ¬ X k) : Oi B X w' b s :=
  ⟨_, ho.old, fun k g => ⟨(hg k g.1).1, g.2, (hg k g.1).2⟩⟩
end

set_option maxHeartbeats 400000 in
theorem take_short {G : Nat → Prop} {w : World} {b : Nat} {l : List UInt8} (h : Opn G w b l none) (hG : G w.heap.size) (n : Nat) (hw : wdB n = true) (hn : l.length < n) :
    Calls Try.prog 41 #[.pointer (some ⟨b, 0, none⟩), .int .i64 n] w fun e w' => e = .returned (.int .u64 0) ∧ Opn G w' b l (some 3) ∧ Kp (fun k => k = b) w w' := by
  have H := Lib.hid h
  have HG := Lib.hid hG
  have HN := Lib.hid hn
  clear h hG hn
  go_enter Try.func41, Try.ntmps41
  go_wp2_with fail
  refine (isWidth_any _ _).mono ?_
  rintro e w1 ⟨rfl, rfl⟩
  go_wp2_with fail
  refine (read_num_short H.out HG.out n (.inr (by have := HN.out; omega))).mono ?_
  rintro e w1 ⟨rfl, ho, hk⟩
  have Ho := Lib.hid ho
  have Hk := Lib.hid hk
  clear ho hk
  go_wp2_with fail
  go_ret
  exact ⟨rfl, Ho.out, Hk.out⟩
set_option maxHeartbeats 400000 in
theorem take_failed {G : Nat → Prop} {w : World} {b : Nat} {l : List UInt8} (h : Opn G w b l (some 3)) (n : Nat) (hw : wdB n = true) :
    Calls Try.prog 41 #[.pointer (some ⟨b, 0, none⟩), .int .i64 n] w fun e w' => e = .returned (.int .u64 0) ∧ Opn G w' b l (some 3) ∧ Kp (fun k => k = b) w w' := by
  have H := Lib.hid h
  clear h
  go_enter Try.func41, Try.ntmps41
  go_wp2_with fail
  refine (isWidth_any _ _).mono ?_
  rintro e w1 ⟨rfl, rfl⟩
  go_wp2_with fail
  refine (read_num_failed H.out (by decide) n).mono ?_
  rintro e w1 ⟨rfl, ho, hk⟩
  have Ho := Lib.hid ho
  have Hk := Lib.hid hk
  clear ho hk
  go_wp2_with fail
  go_ret
  exact ⟨rfl, Ho.out, Hk.out⟩
set_option maxHeartbeats 400000 in
theorem text_short {G : Nat → Prop} {w : World} {b : Nat} {l : List UInt8} (h : Opn G w b l none) (hG : G w.heap.size) (n : Nat) (hn : l.length < n) :
    Calls Try.prog 42 #[.pointer (some ⟨b, 0, none⟩), .int .i64 n] w fun e w' => e = .returned (.string ⟨#[]⟩) ∧ Opn G w' b l (some 3) ∧ Kp (fun k => k = b) w w' := by
  have H := Lib.hid h
  have HG := Lib.hid hG
  have HN := Lib.hid hn
  clear h hG hn
  go_enter Try.func42, Try.ntmps42
  go_wp2_with fail
  refine (read_text_short H.out HG.out n (.inr (by have := HN.out; omega))).mono ?_
  rintro e w1 ⟨rfl, ho, hk⟩
  have Ho := Lib.hid ho
  have Hk := Lib.hid hk
  clear ho hk
  go_wp2_with fail
  go_ret
  exact ⟨rfl, Ho.out, Hk.out⟩
set_option maxHeartbeats 400000 in
theorem text_failed {G : Nat → Prop} {w : World} {b : Nat} {l : List UInt8} (h : Opn G w b l (some 3)) (n : Nat) :
    Calls Try.prog 42 #[.pointer (some ⟨b, 0, none⟩), .int .i64 n] w fun e w' => e = .returned (.string ⟨#[]⟩) ∧ Opn G w' b l (some 3) ∧ Kp (fun k => k = b) w w' := by
  have H := Lib.hid h
  clear h
  go_enter Try.func42, Try.ntmps42
  go_wp2_with fail
  refine (read_text_failed H.out (by decide) n).mono ?_
  rintro e w1 ⟨rfl, ho, hk⟩
  have Ho := Lib.hid ho
  have Hk := Lib.hid hk
  clear ho hk
  go_wp2_with fail
  go_ret
  exact ⟨rfl, Ho.out, Hk.out⟩
theorem gv_fine {n : Nat} {l : List UInt8} (h : n ≤ l.length) : gv n (l, false) = (l.take n, (l.drop n, false)) := by simp [gv, h]
theorem gv_short {n : Nat} {l : List UInt8} (h : l.length < n) : gv n (l, false) = ([], (l, true)) := by
  unfold gv
  rw [if_neg (by simp), if_neg (by simpa using h)]
theorem gv_failed (n : Nat) (l : List UInt8) : gv n (l, true) = ([], (l, true)) := rfl
theorem take_i {B b : Nat} {X : Nat → Prop} {w : World} {s : List UInt8 × Bool} (h : Oi B X w b s) (hX : ∀ k, X k → k < w.heap.size) (hB : B ≤ w.heap.size) (n : Nat) (hw : wdB n = true) :
    Calls Try.prog 41 #[.pointer (some ⟨b, 0, none⟩), .int .i64 n] w fun e w' => e = .returned (.int .u64 (numN (gv n s).1 : Nat)) ∧ Oi B X w' b (gv n s).2 ∧ Kp (fun k => k = b) w w' := by
  obtain ⟨G, ho, h1, h2⟩ := h.grow hX hB
  obtain ⟨l, f⟩ := s
  rcases f with _ | _
  · rcases Nat.lt_or_ge l.length n with hl | hl
    · rw [gv_short hl]
      exact (take_short ho h1 n hw hl).mono fun e w' ⟨a, b, c⟩ => ⟨a, .back (s := (l, true)) b h2, c⟩
    · rw [gv_fine hl]
      exact (take_fine ho n hw hl).mono fun e w' ⟨a, b, c⟩ => ⟨a, .back (s := (l.drop n, false)) b h2, c⟩
  · rw [gv_failed]
    exact (take_failed ho n hw).mono fun e w' ⟨a, b, c⟩ => ⟨a, .back (s := (l, true)) b h2, c⟩
theorem text_i {B b : Nat} {X : Nat → Prop} {w : World} {s : List UInt8 × Bool} (h : Oi B X w b s) (hX : ∀ k, X k → k < w.heap.size) (hB : B ≤ w.heap.size) (n : Nat) :
    Calls Try.prog 42 #[.pointer (some ⟨b, 0, none⟩), .int .i64 n] w fun e w' => e = .returned (.string ⟨(gv n s).1.toArray⟩) ∧ Oi B X w' b (gv n s).2 ∧ Kp (fun k => k = b) w w' := by
  obtain ⟨G, ho, h1, h2⟩ := h.grow hX hB
  obtain ⟨l, f⟩ := s
  rcases f with _ | _
  · rcases Nat.lt_or_ge l.length n with hl | hl
    · rw [gv_short hl]
      exact (text_short ho h1 n hl).mono fun e w' ⟨a, b, c⟩ => ⟨a, .back (s := (l, true)) b h2, c⟩
    · rw [gv_fine hl]
      exact (otext_fine ho n hl).mono fun e w' ⟨a, b, c⟩ => ⟨a, .back (s := (l.drop n, false)) b h2, c⟩
  · rw [gv_failed]
    exact (text_failed ho n).mono fun e w' ⟨a, b, c⟩ => ⟨a, .back (s := (l, true)) b h2, c⟩

theorem nown_kp {S : Nat → Prop} {w w' : World} {base : Nat} {e : TypeId} {size n : Nat} {v : Value} {xs : List Value} (h : w.ownsRow base e size v n xs) (hk : Kp S w w') (hn : ∀ k, v.ownBlock = some k → ¬ S k) : w'.ownsRow base e size v n xs := by
  refine ⟨h.1, ?_⟩
  rcases h.2 with h2 | ⟨g, cap, cur, rfl, hb, hg, h3⟩
  · exact .inl h2
  · exact .inr ⟨g, cap, cur, rfl, hb, (hk.block g (Box.lt (t := e) hg) (hn g rfl)).trans hg, h3⟩
theorem own_ltt {w : World} {base : Nat} {e : TypeId} {size n : Nat} {v : Value} {xs : List Value} (h : w.ownsRow base e size v n xs) {q : Nat} (hq : v.ownBlock = some q) : q < w.heap.size ∧ ∃ cs fr, w.heap[q]? = some (.cells cs e fr) := by
  rcases h.2 with ⟨rfl, _⟩ | ⟨g, cap, cur, rfl, hb, hg, _⟩
  · cases hq
  · cases hq
    exact ⟨Box.lt (t := e) hg, _, _, hg⟩
/-- A node under way: its variable bn, and the rows of its keys, values and children. -/
structure Nw (B : Nat) (w : World) (bn : Nat) (lf : Bool) (vk vv vc : Value) (ks vs : List ByteArray) (cs : List Int) : Prop where
  box : Box w bn 36 #[.bool lf, vk, vv, vc]
  k : w.ownsRow 0 9 1 vk ks.length (sts ks)
  v : w.ownsRow 0 9 1 vv vs.length (sts vs)
  c : w.ownsRow 0 3 1 vc cs.length (its cs)
  kv : ∀ q, vk.ownBlock = some q → vv.ownBlock ≠ some q
  nb : B ≤ bn
  nk : ∀ q, vk.ownBlock = some q → B ≤ q
  nv : ∀ q, vv.ownBlock = some q → B ≤ q
  nc : ∀ q, vc.ownBlock = some q → B ≤ q
def NX (bn : Nat) (vk vv vc : Value) (q : Nat) : Prop := q = bn ∨ vk.ownBlock = some q ∨ vv.ownBlock = some q ∨ vc.ownBlock = some q
section
variable {B : Nat} {w w' : World} {bn : Nat} {lf : Bool} {vk vv vc v' : Value} {ks vs : List ByteArray} {cs : List Int} {S : Nat → Prop}
theorem Nw.lt (h : Nw B w bn lf vk vv vc ks vs cs) : ∀ q, NX bn vk vv vc q → q < w.heap.size := by
  rintro q (rfl | e | e | e)
  · exact h.box.lt
  · exact (own_ltt h.k e).1
  · exact (own_ltt h.v e).1
  · exact (own_ltt h.c e).1
theorem Nw.kp (h : Nw B w bn lf vk vv vc ks vs cs) (hk : Kp S w w') (hS : ∀ q, S q → ¬ NX bn vk vv vc q) : Nw B w' bn lf vk vv vc ks vs cs :=
  ⟨h.box.kp hk fun e => hS _ e (.inl rfl), nown_kp h.k hk fun q e hs => hS q hs (.inr (.inl e)), nown_kp h.v hk fun q e hs => hS q hs (.inr (.inr (.inl e))), nown_kp h.c hk fun q e hs => hS q hs (.inr (.inr (.inr e))), h.kv, h.nb, h.nk, h.nv, h.nc⟩
theorem type_no {q : Nat} {t t' : TypeId} (h : ∃ cs fr, w.heap[q]? = some (.cells cs t fr)) (h' : ∃ cs fr, w.heap[q]? = some (.cells cs t' fr)) : t = t' := by
  obtain ⟨c1, f1, e1⟩ := h
  obtain ⟨c2, f2, e2⟩ := h'
  rw [e1] at e2
  injection e2 with e2
  injection e2 with _ e2
theorem Nw.bt (h : Nw B w bn lf vk vv vc ks vs cs) : ∃ cs fr, w.heap[bn]? = some (.cells cs 36 fr) := ⟨_, _, h.box⟩
theorem Nw.bk (h : Nw B w bn lf vk vv vc ks vs cs) : vk.ownBlock ≠ some bn := fun e => absurd (type_no (own_ltt h.k e).2 h.bt) (by decide)
theorem Nw.bv (h : Nw B w bn lf vk vv vc ks vs cs) : vv.ownBlock ≠ some bn := fun e => absurd (type_no (own_ltt h.v e).2 h.bt) (by decide)
theorem Nw.bc (h : Nw B w bn lf vk vv vc ks vs cs) : vc.ownBlock ≠ some bn := fun e => absurd (type_no (own_ltt h.c e).2 h.bt) (by decide)
theorem grown_kp {row : Option Nat} (hg : w.grownBy w' row) : Kp (fun q => row = some q) w w' := (Kp.refl (fun q => row = some q) w).grown hg fun _ e => .inr e
theorem put3 (i : Nat) (v : Value) (hne : ∀ q, vk.ownBlock = some q → q ≠ bn) {t : TypeId} {n : Nat} {xs : List Value} (h : w.ownsRow 0 t 1 vk n xs) : (w.setCell ⟨bn, i, none⟩ v).ownsRow 0 t 1 vk n xs :=
  nown_kp h (Kp.one w bn i v) fun q e hq => hne q e hq
/-- A child behind the others. -/
theorem Nw.appC (h : Nw B w bn lf vk vv vc ks vs cs) (hB : B ≤ w.heap.size) (x : Int) (ho : w'.ownsRow 0 3 1 v' (cs.length + 1) (its cs ++ [.int .i64 x])) (hg : w.grownBy w' vc.ownBlock) (ha : v'.ownBlock = vc.ownBlock ∨ v'.ownBlock = some w.heap.size) :
    Nw B (w'.setCell ⟨bn, 3, none⟩ v') bn lf vk vv v' ks vs (cs ++ [x]) ∧ Kp (NX bn vk vv vc) w (w'.setCell ⟨bn, 3, none⟩ v') ∧ (∀ q, NX bn vk vv v' q → NX bn vk vv vc q ∨ w.heap.size ≤ q) := by
  have hk := grown_kp hg
  have hkc : ∀ q, vk.ownBlock = some q → ¬ vc.ownBlock = some q := fun q e e' => absurd (type_no (own_ltt h.k e).2 (own_ltt h.c e').2) (by decide)
  have hvc : ∀ q, vv.ownBlock = some q → ¬ vc.ownBlock = some q := fun q e e' => absurd (type_no (own_ltt h.v e).2 (own_ltt h.c e').2) (by decide)
  have hb1 := h.box.kp hk h.bc
  have hvb : ∀ q, v'.ownBlock = some q → q ≠ bn := by
    rintro q e rfl
    rcases ha with e1 | e1
    · exact h.bc (e1 ▸ e)
    · rw [e1] at e
      cases e
      exact Nat.lt_irrefl _ h.box.lt
  refine ⟨⟨?_, put3 3 v' (fun q e e' => h.bk (by rw [← e']; exact e)) (nown_kp h.k hk hkc), put3 3 v' (fun q e e' => h.bv (by rw [← e']; exact e)) (nown_kp h.v hk hvc), ?_, h.kv, h.nb, h.nk, h.nv, fun q e => ?_⟩, ?_, ?_⟩
  · simpa using hb1.put 3 v'
  · have := put3 (bn := bn) 3 v' hvb ho
    rw [List.length_append, List.length_singleton]
    simpa [its] using this
  · rcases ha with e1 | e1
    · exact h.nc q (e1 ▸ e)
    · rw [e1] at e
      cases e
      exact hB
  · exact (hk.mono fun q _ e => .inr (.inr (.inr e))).setCell (.inr (.inl rfl)) v'
  · rintro q (e | e | e | e)
    · exact .inl (.inl e)
    · exact .inl (.inr (.inl e))
    · exact .inl (.inr (.inr (.inl e)))
    · rcases ha with e1 | e1
      · exact .inl (.inr (.inr (.inr (e1 ▸ e))))
      · rw [e1] at e
        cases e
        exact .inr (Nat.le_refl _)
/-- A key behind the others. -/
theorem Nw.appK (h : Nw B w bn lf vk vv vc ks vs cs) (hB : B ≤ w.heap.size) (x : ByteArray) (ho : w'.ownsRow 0 9 1 v' (ks.length + 1) (sts ks ++ [.string x])) (hg : w.grownBy w' vk.ownBlock) (ha : v'.ownBlock = vk.ownBlock ∨ v'.ownBlock = some w.heap.size) :
    Nw B (w'.setCell ⟨bn, 1, none⟩ v') bn lf v' vv vc (ks ++ [x]) vs cs ∧ Kp (NX bn vk vv vc) w (w'.setCell ⟨bn, 1, none⟩ v') ∧ (∀ q, NX bn v' vv vc q → NX bn vk vv vc q ∨ w.heap.size ≤ q) := by
  have hk := grown_kp hg
  have hvk : ∀ q, vv.ownBlock = some q → ¬ vk.ownBlock = some q := fun q e e' => h.kv q e' e
  have hck : ∀ q, vc.ownBlock = some q → ¬ vk.ownBlock = some q := fun q e e' => absurd (type_no (own_ltt h.k e').2 (own_ltt h.c e).2) (by decide)
  have hb1 := h.box.kp hk h.bk
  have hvb : ∀ q, v'.ownBlock = some q → q ≠ bn := by
    rintro q e rfl
    rcases ha with e1 | e1
    · exact h.bk (e1 ▸ e)
    · rw [e1] at e
      cases e
      exact Nat.lt_irrefl _ h.box.lt
  refine ⟨⟨?_, ?_, put3 1 v' (fun q e e' => h.bv (by rw [← e']; exact e)) (nown_kp h.v hk hvk), put3 1 v' (fun q e e' => h.bc (by rw [← e']; exact e)) (nown_kp h.c hk hck), fun q e e' => ?_, h.nb, fun q e => ?_, h.nv, h.nc⟩, ?_, ?_⟩
  · simpa using hb1.put 1 v'
  · have := put3 (bn := bn) 1 v' hvb ho
    rw [List.length_append, List.length_singleton]
    simpa [sts] using this
  · rcases ha with e1 | e1
    · exact h.kv q (e1 ▸ e) e'
    · rw [e1] at e
      cases e
      exact Nat.lt_irrefl _ (own_ltt h.v e').1
  · rcases ha with e1 | e1
    · exact h.nk q (e1 ▸ e)
    · rw [e1] at e
      cases e
      exact hB
  · exact (hk.mono fun q _ e => .inr (.inl e)).setCell (.inr (.inl rfl)) v'
  · rintro q (e | e | e | e)
    · exact .inl (.inl e)
    · rcases ha with e1 | e1
      · exact .inl (.inr (.inl (e1 ▸ e)))
      · rw [e1] at e
        cases e
        exact .inr (Nat.le_refl _)
    · exact .inl (.inr (.inr (.inl e)))
    · exact .inl (.inr (.inr (.inr e)))
/-- A value behind the others. -/
theorem Nw.appV (h : Nw B w bn lf vk vv vc ks vs cs) (hB : B ≤ w.heap.size) (x : ByteArray) (ho : w'.ownsRow 0 9 1 v' (vs.length + 1) (sts vs ++ [.string x])) (hg : w.grownBy w' vv.ownBlock) (ha : v'.ownBlock = vv.ownBlock ∨ v'.ownBlock = some w.heap.size) :
    Nw B (w'.setCell ⟨bn, 2, none⟩ v') bn lf vk v' vc ks (vs ++ [x]) cs ∧ Kp (NX bn vk vv vc) w (w'.setCell ⟨bn, 2, none⟩ v') ∧ (∀ q, NX bn vk v' vc q → NX bn vk vv vc q ∨ w.heap.size ≤ q) := by
  have hk := grown_kp hg
  have hkv : ∀ q, vk.ownBlock = some q → ¬ vv.ownBlock = some q := fun q e e' => h.kv q e e'
  have hcv : ∀ q, vc.ownBlock = some q → ¬ vv.ownBlock = some q := fun q e e' => absurd (type_no (own_ltt h.v e').2 (own_ltt h.c e).2) (by decide)
  have hb1 := h.box.kp hk h.bv
  have hvb : ∀ q, v'.ownBlock = some q → q ≠ bn := by
    rintro q e rfl
    rcases ha with e1 | e1
    · exact h.bv (e1 ▸ e)
    · rw [e1] at e
      cases e
      exact Nat.lt_irrefl _ h.box.lt
  refine ⟨⟨?_, put3 2 v' (fun q e e' => h.bk (by rw [← e']; exact e)) (nown_kp h.k hk hkv), ?_, put3 2 v' (fun q e e' => h.bc (by rw [← e']; exact e)) (nown_kp h.c hk hcv), fun q e e' => ?_, h.nb, h.nk, fun q e => ?_, h.nc⟩, ?_, ?_⟩
  · simpa using hb1.put 2 v'
  · have := put3 (bn := bn) 2 v' hvb ho
    rw [List.length_append, List.length_singleton]
    simpa [sts] using this
  · rcases ha with e1 | e1
    · exact h.kv q e (e1 ▸ e')
    · rw [e1] at e'
      cases e'
      exact Nat.lt_irrefl _ (own_ltt h.k e).1
  · rcases ha with e1 | e1
    · exact h.nv q (e1 ▸ e)
    · rw [e1] at e
      cases e
      exact hB
  · exact (hk.mono fun q _ e => .inr (.inr (.inl e))).setCell (.inr (.inl rfl)) v'
  · rintro q (e | e | e | e)
    · exact .inl (.inl e)
    · exact .inl (.inr (.inl e))
    · rcases ha with e1 | e1
      · exact .inl (.inr (.inr (.inl (e1 ▸ e))))
      · rw [e1] at e
        cases e
        exact .inr (Nat.le_refl _)
    · exact .inl (.inr (.inr (.inr e)))
/-- The node that was read. -/
theorem Nw.node (h : Nw B w bn lf vk vv vc ks vs cs) : ∃ p, (#[.bool lf, vk, vv, vc] : Array Value) = ncs ⟨lf, ks, vs, cs⟩ p ∧ NdR w ⟨lf, ks, vs, cs⟩ p := by
  have cp : ∀ {t : TypeId} {A : Option Addr} {n c : Nat} {xs : List Value}, w.ownsRow 0 t 1 (.slice A n c) n xs → n ≤ c ∧ c ≤ maxLen := by
    intro t A n c xs h
    rcases h.2 with ⟨e, h0⟩ | ⟨g, cap, cur, e, _, _, h1, h2, _⟩
    · cases e
      exact ⟨by omega, by simp [maxLen]⟩
    · cases e
      exact ⟨h1, h2⟩
  obtain ⟨Ak, ck, rfl⟩ := own_shape h.k
  obtain ⟨Av, cv, rfl⟩ := own_shape h.v
  obtain ⟨Ac, cc, rfl⟩ := own_shape h.c
  exact ⟨⟨Ak, Av, Ac, ck, cv, cc⟩, rfl, ⟨.of_own h.k, .of_own h.v, .of_own h.c, cp h.k, cp h.v, cp h.c⟩⟩
end
theorem wp_append_at {P : Program} {w : World} {o : Oper} {a : Act} {K : Act → World → Prop} {Q : Exit → Act → World → Prop} (s x : Operand) (t : TypeId)
    (ho : o.op = .call { callee := .builtin .append, args := #[s, x], argTypes := #[t, t] })
    (base : Nat) (e : TypeId) (i : TypeInfo) (z : Value) (size bytes : Nat) (ht : P.underlying t = some (.slice e)) (hi : P.info? e = some i) (hz : i.zero = some z)
    (hsize : i.size = size) (hby : i.bytes = bytes) (hzs : z.cells.size = size) (hsz : 0 < size)
    (v : Value) (n : Nat) (xs : List Value) (hs : a.eval s = v) (hown : w.ownsRow base e size v n xs)
    (ad : Addr) (m c : Nat) (news : List Value) (hx : a.eval x = .slice (some ad) m c) (hl : news.length = m * size) (hnews : ∀ j u, news[j]? = some u → w.cell? (ad.add j) = some u) (h1 : ∀ u ∈ news, u.oneCell' = true)
    (h63 : n + m ≤ maxLen) (hbytes : (n + m) * bytes ≤ 140737488355328) (hbase : base ≤ w.heap.size)
    (h : ∀ v' w', w'.ownsRow base e size v' (n + m) (xs ++ news) → w.grownBy w' v.ownBlock → (v'.ownBlock = v.ownBlock ∨ v'.ownBlock = some w.heap.size) → K (a.put o.dst v') w') : o.wp P a w K Q := by
  obtain ⟨v', w', hr, h2, h3, h4, h5⟩ := run_append_own_at (P := P) w base t o.type e i z size bytes ht hi hz hsize hby hzs hsz v n xs hown ad m c news hl hnews h1 h63 hbytes hbase
  unfold Oper.wp execOp
  simp only [ho, resolve, invoke, builtin, Sem.run_bind, Sem.run_pure, Result.andThen_ok, List.map_toArray, List.map_cons, List.map_nil, hs, hx, hr]
  exact h v' w' h2 h3 h5
end Go.Proofs.Ytjapnkpicefadaa
