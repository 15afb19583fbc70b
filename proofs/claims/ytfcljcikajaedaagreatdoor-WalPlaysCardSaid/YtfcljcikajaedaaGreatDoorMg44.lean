/- The memory of the law on what was committed: a state, a disk, a log, a row of texts. No condition. -/
import Derived.Test.YtfcljcikajaedaaGreatDoorMg37
import Derived.Test.YtfcljcikajaedaaGreatDoorMg43
namespace Go.Proofs.YtfcljcikajaedaaGreatDoor
open Go.RowKit Go.Maps

/-- The memory of the law. -/
structure Km (B : Nat) (w : World) (gs g b : Nat) (va : Value) (all : List (List UInt8)) (d : Dm) (l : Lm) (W : World) : Prop where
  st : ∃ cs : List Value, Box W gs 44 cs.toArray ∧ cs[0]? = some (.pointer (some ⟨b, 0, none⟩))
  dk : Dsk (fun k => B ≤ k) W b d
  lg : Box W g 93 (lcs b l)
  row : W.ownsRow B 9 1 va all.length (strs all)
  gB : B ≤ g
  sB : B ≤ gs
  kp : Kp (fun k => B ≤ k) w W
section
variable {B : Nat} {w W W' : World} {gs g b ga : Nat} {va : Value} {all : List (List UInt8)} {d d' : Dm} {l l' : Lm}
theorem ne_type {k : Nat} {t t' : TypeId} {cs : Array Value} {cur : Array Value} {fr : Nat × Nat} (h : Box W g t cs) (hc : W.heap[k]? = some (.cells cur t' fr)) (hne : t' ≠ t) : k ≠ g := by
  rintro rfl
  unfold Box at h
  rw [h] at hc
  injection hc with hc
  injection hc with _ ht
  exact hne ht.symm
/-- A block of another type stays. -/
theorem Km.other {k : Nat} {t : TypeId} {cs : Array Value} (h : Km B w gs g b va all d l W) (hb : Box W k t cs) (ht : LT t) (htl : t ≠ 93) (hk : Kp (fun k => (B ≤ k ∧ DT W k) ∨ k = g) W W') : Box W' k t cs :=
  hb.kp hk (fun e => by
    rcases e with e | e
    · exact not_DT hb ht e.2
    · exact ne_type h.lg hb htl e)
theorem own_other {base : Nat} {e : TypeId} {size n : Nat} {v : Value} {xs : List Value} (hlg : ∃ cs, Box W g 93 cs) (ho : W.ownsRow base e size v n xs) (ht : LT e) (htl : e ≠ 93) (hk : Kp (fun k => (B ≤ k ∧ DT W k) ∨ k = g) W W') : W'.ownsRow base e size v n xs :=
  down_kp ho hk (fun k hk' hS => by
    obtain ⟨cur, hc⟩ := own_block ho hk'
    obtain ⟨cs, hb⟩ := hlg
    rcases hS with e | e
    · exact not_DT hc ht e.2
    · exact ne_type hb hc htl e)
theorem Km.turn (h : Km B w gs g b va all d l W) (hd : Dsk (fun k => B ≤ k ∧ DT W k) W' b d') (hb : Box W' g 93 (lcs b l')) (hk : Kp (fun k => (B ≤ k ∧ DT W k) ∨ k = g) W W') : Km B w gs g b va all d' l' W' := by
  obtain ⟨cs, hs, hc⟩ := h.st
  have hgB := h.gB
  exact ⟨⟨cs, h.other hs ⟨by decide, by decide, by decide⟩ (by decide) hk, hc⟩, hd.mono fun _ e => e.1, hb, own_other ⟨_, h.lg⟩ h.row ⟨by decide, by decide, by decide⟩ (by decide) hk, h.gB, h.sB,
    h.kp.trans (hk.mono fun k _ e => by rcases e with e | rfl; exact e.1; exact hgB)⟩
theorem Kp.orG {F : Nat → Prop} (h : Kp F W W') (g : Nat) : Kp (fun k => F k ∨ k = g) W W' := h.mono fun _ _ e => .inl e
theorem Km.disk (h : Km B w gs g b va all d l W) (hd : Dsk (fun k => B ≤ k ∧ DT W k) W' b d') (hk : Kp (fun k => B ≤ k ∧ DT W k) W W') : Km B w gs g b va all d' l W' :=
  h.turn hd (h.lg.kp hk (fun e => not_DT h.lg ⟨by decide, by decide, by decide⟩ e.2)) (hk.orG g)
theorem Km.still (h : Km B w gs g b va all d l W) (hk : Kp (fun _ => False) W W') : Km B w gs g b va all d l W' := by
  obtain ⟨cs, hs, hc⟩ := h.st
  exact ⟨⟨cs, hs.kp hk (fun e => e), hc⟩, h.dk.still hk, h.lg.kp hk (fun e => e), down_kp h.row hk (fun _ _ e => e), h.gB, h.sB, h.kp.trans hk.of_false⟩
theorem Km.new (h : Km B w gs g b va all d l W) : ∀ k, W.heap.size ≤ k → B ≤ k ∧ DT W k := fun k hk => ⟨by have := h.lg.lt; have := h.gB; omega, .inl hk⟩
theorem Km.tbl (h : Km B w gs g b va all d l W) (ht : Tbl w) (hB : B = w.heap.size) : Tbl W := ht.kp h.kp (fun e => by have := halves_old ht; omega)
theorem Km.st0 (h : Km B w gs g b va all d l W) : W.cell? ⟨gs, 0, none⟩ = some (.pointer (some ⟨b, 0, none⟩)) := by
  obtain ⟨cs, hs, hc⟩ := h.st
  rw [hs.cell, List.getElem?_toArray]
  exact hc
/-- A log that was opened, and its texts. -/
theorem Km.opened {g2 : Nat} {v2 : Value} {u : List (List UInt8)} (h : Km B w gs g b va all d l W) (hk : Kp (fun _ => False) W W') (hb : Box W' g2 93 (lcs b l')) (ho : W'.ownsRow W.heap.size 9 1 v2 u.length (strs u)) (hg : W.heap.size ≤ g2) : Km B w gs g2 b v2 u d l' W' := by
  have hs := h.still hk
  have hB : B ≤ W.heap.size := by have := h.lg.lt; have := h.gB; omega
  exact ⟨hs.st, hs.dk, hb, own_base' ho hB, by omega, hs.sB, hs.kp⟩
/-- A row of texts, written. -/
theorem Km.rowSet {v' : Value} {all' : List (List UInt8)} (h : Km B w gs g b va all d l W) (ho : W'.ownsRow B 9 1 v' all'.length (strs all')) (hk : Kp (fun k => va.ownBlock = some k) W W') : Km B w gs g b v' all' d l W' := by
  obtain ⟨cs, hs, hc⟩ := h.st
  have hb : ∀ {k : Nat} {t : TypeId} {cs : Array Value}, Box W k t cs → t ≠ 9 → Box W' k t cs := fun {k t cs} hb hne => hb.kp hk (fun e => by
    obtain ⟨cur, hc⟩ := own_block h.row e
    exact ne_type hb hc (fun e => hne e.symm) rfl)
  exact ⟨⟨cs, hb hs (by decide), hc⟩, h.dk.kp_own hk h.row ⟨by decide, by decide, by decide⟩, hb h.lg (by decide), ho, h.gB, h.sB, h.kp.trans (hk.mono fun k _ e => (h.row.lt k e).1)⟩
theorem Km.rowNil (h : Km B w gs g b va all d l W) : Km B w gs g b (.slice none 0 0) [] d l W := ⟨h.st, h.dk, h.lg, World.ownsRow_nil _ _ _ _, h.gB, h.sB, h.kp⟩
end
end Go.Proofs.YtfcljcikajaedaaGreatDoor
