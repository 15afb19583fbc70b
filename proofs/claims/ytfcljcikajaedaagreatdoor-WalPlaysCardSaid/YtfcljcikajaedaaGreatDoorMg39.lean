/- What each sector of a disk holds, and each write that waits, behind each act; and a log in the document's own words is the log, as long as its heads are zeros or heads. Plain lists and numbers, no program. No condition. -/
import Derived.Test.YtfcljcikajaedaaGreatDoorMg38
import Derived.Test.YtfcljcikajaedaaGreatDoorMg36
namespace Go.Proofs.YtfcljcikajaedaaGreatDoor

theorem on_writeS (d : Dm) (a : Int) (l : List UInt8) : (d.writeS a l).1.on.length = d.on.length := by
  unfold Dm.writeS
  split
  · rfl
  · split
    · rfl
    · split
      · simp [Dm.lose, settleL_length]
      · rfl
theorem wait_writeS (d : Dm) (a : Int) (l : List UInt8) : (d.writeS a l).1.wait.length ≤ d.wait.length + 1 := by
  unfold Dm.writeS
  split
  · exact Nat.le_succ _
  · split
    · exact Nat.le_succ _
    · split
      · simp [Dm.lose]
      · simp [Dm.push, Dm.act]
theorem on_flushS (d : Dm) : d.flushS.1.on.length = d.on.length := by
  unfold Dm.flushS
  split
  · rfl
  · split <;> simp [Dm.lose, Dm.all, Dm.act, settleL_length]
theorem wait_flushS (d : Dm) : d.flushS.1.wait.length ≤ d.wait.length := by
  unfold Dm.flushS
  split
  · exact Nat.le_refl _
  · split <;> simp [Dm.lose, Dm.all]
/-- Of each sector, and of each write that waits for it. -/
structure Ev (P : Nat → List UInt8 → Prop) (d : Dm) : Prop where
  on_ : ∀ k, k < d.on.length → P k (d.on.getD k [])
  wait_ : ∀ x ∈ d.wait, P x.1 x.2
section
variable {P P' : Nat → List UInt8 → Prop} {d : Dm}
theorem Ev.mono (h : Ev P d) (hp : ∀ k l, P k l → P' k l) : Ev P' d := ⟨fun k hk => hp _ _ (h.on_ k hk), fun x hx => hp _ _ (h.wait_ x hx)⟩
theorem Ev.now (h : Ev P d) (k : Nat) (hk : k < d.on.length) : P k (d.nowAt k) := by
  unfold Dm.nowAt
  rcases hl : lastOf d.wait k with _ | i
  · exact h.on_ k hk
  · obtain ⟨b, hb⟩ := lastOf_get _ _ _ hl
    have : d.wait.getD i (0, []) = (k, b) := by simp [List.getD, hb]
    dsimp only
    rw [this]
    exact h.wait_ (k, b) (List.mem_of_getElem? hb)
theorem Ev.settle (h : Ev P d) (ok : d.ok) (f : Nat → Bool) (k : Nat) (hk : k < d.on.length) : P k ((settleL f d.on d.wait).getD k []) := by
  rcases settle_mem f d.on d.wait ok.at_ k with e | ⟨x, hx, e1, e2⟩
  · rw [e]; exact h.on_ k hk
  · rw [e2, ← e1]; exact h.wait_ x hx
theorem Ev.lose (h : Ev P d) (ok : d.ok) (kp : List UInt8) : Ev P (d.lose kp) :=
  ⟨fun k hk => h.settle ok _ k (by rwa [show (d.lose kp).on.length = d.on.length by simp [Dm.lose, settleL_length]] at hk), fun x hx => by simp [Dm.lose] at hx⟩
theorem Ev.all (h : Ev P d) (ok : d.ok) : Ev P d.act.all :=
  ⟨fun k hk => by
    show P k ((settleL (fun _ => true) d.on d.wait).getD k [])
    exact h.settle ok _ k (by rwa [show d.act.all.on.length = d.on.length by simp [Dm.all, Dm.act, settleL_length]] at hk), fun x hx => by simp [Dm.all] at hx⟩
theorem Ev.push (h : Ev P d) (a : Nat) (l : List UInt8) (ha : P a l) : Ev P (d.act.push a l) :=
  ⟨fun k hk => h.on_ k hk, fun x hx => by
    have hx' : x ∈ d.wait ++ [(a, l)] := hx
    rcases List.mem_append.1 hx' with hx | hx
    · exact h.wait_ x hx
    · obtain rfl : x = (a, l) := by simpa using hx
      exact ha⟩
theorem Ev.flush (h : Ev P d) (ok : d.ok) : Ev P d.flushS.1 := by
  unfold Dm.flushS
  split
  · exact h
  · split
    · exact h.lose ok _
    · exact h.all ok
theorem Ev.write (h : Ev P d) (ok : d.ok) (a : Nat) (l : List UInt8) (ha : P a l) : Ev P (d.writeS a l).1 := by
  unfold Dm.writeS
  split
  · exact h
  · split
    · exact h
    · split
      · exact h.lose ok _
      · exact h.push _ _ (by rwa [Int.toNat_natCast])
theorem Ev.crash (h : Ev P d) (ok : d.ok) (k : List UInt8) : Ev P (d.crashS k).1 := by
  unfold Dm.crashS
  split
  · exact h
  · exact h.lose ok _
theorem Ev.start (h : Ev P d) : Ev P d.startS := ⟨h.on_, h.wait_⟩
theorem Ev.fuse (h : Ev P d) (n : Int) (k : List UInt8) : Ev P (d.fuseS n k).1 := by
  unfold Dm.fuseS
  split
  · exact ⟨h.on_, h.wait_⟩
  · exact h
theorem Ev.putHead (h : Ev P d) (ok : d.ok) (hw : d.wait.length + 1 < 1073741824) (a : Nat) (x : Hd) (ha : P a (hsec x)) : Ev P (d.putHead a x).1 := by
  unfold Dm.putHead
  have h1 := h.write ok a _ ha
  have ok1 := (ok_writeS ok a (hsec x) hw)
  generalize d.writeS a (hsec x) = r at h1 ok1 ⊢
  obtain ⟨d1, e⟩ := r
  dsimp only at h1 ok1 ⊢
  split
  · exact h1.flush ok1
  · exact h1
theorem Ev.putAll (n : Nat) (hn : 0 < n) : ∀ (ss : List Sh) (d : Dm), Ev P d → d.ok → d.wait.length + ss.length < 1073741824 → (∀ s ∈ ss, P (2 + s.q % n) (secL s.q s.last s.t)) → Ev P (Dm.putAll n ss d).1
  | [], d, h, ok, _, _ => h.flush ok
  | s :: r, d, h, ok, hw, hs => by
    have hw1 : d.wait.length + (r.length + 1) < 1073741824 := hw
    have h1 := h.write ok (2 + s.q % n) _ (hs s (by simp))
    have ok1 := ok_writeS ok ((2 + s.q % n : Nat) : Int) (secL s.q s.last s.t) (by omega)
    have hl1 := wait_writeS d ((2 + s.q % n : Nat) : Int) (secL s.q s.last s.t)
    unfold Dm.putAll
    generalize d.writeS ((2 + s.q % n : Nat) : Int) (secL s.q s.last s.t) = x at h1 ok1 hl1 ⊢
    obtain ⟨d1, e⟩ := x
    dsimp only at h1 ok1 hl1 ⊢
    split
    · exact Ev.putAll n hn r d1 h1 ok1 (by omega) (fun x hx => hs x (by simp [hx]))
    · exact h1
end
/-- What a sector of a disk with logs may hold, as long as its numbers are below a bound. -/
def GH (B : Nat) (l : List UInt8) : Prop := l = zsec0 ∨ ∃ h : Hd, h.ok ∧ h.g < B ∧ h.f < B ∧ l = hsec h
def GP (B k : Nat) (l : List UInt8) : Prop := (k < 2 → GH B l) ∧ (2 ≤ k → ∀ s, takeS l = some s → s.q < B)
theorem GP.mono {B B' k : Nat} {l : List UInt8} (h : GP B k l) (hb : B ≤ B') : GP B' k l := by
  refine ⟨fun hk => ?_, fun hk s hs => Nat.lt_of_lt_of_le (h.2 hk s hs) hb⟩
  rcases h.1 hk with e | ⟨x, o, h1, h2, e⟩
  · exact .inl e
  · exact .inr ⟨x, o, by omega, by omega, e⟩
theorem rheadS_zero : rheadS zsec0 = none := by
  unfold rheadS
  rw [if_neg]
  rintro ⟨_, _, h⟩
  revert h
  decide +kernel
theorem rheadS_nil : rheadS [] = none := by decide
theorem GH.head {B : Nat} {l : List UInt8} (h : GH B l) : rheadS l = headS l ∧ ∀ x, headS l = some x → x.ok ∧ x.g < B ∧ x.f < B := by
  rcases h with rfl | ⟨x, o, h1, h2, rfl⟩
  · rw [rheadS_zero, headS_zero]; exact ⟨rfl, fun x hx => by cases hx⟩
  · rw [headS_r (headS_hsec x o), headS_hsec x o]
    refine ⟨rfl, fun y hy => ?_⟩
    injection hy with hy
    subst hy
    exact ⟨o, h1, h2⟩
abbrev Good (B : Nat) (d : Dm) : Prop := Ev (GP B) d
section
variable {B : Nat} {d : Dm}
theorem Good.up {B' : Nat} (h : Good B d) (hb : B ≤ B') : Good B' d := Ev.mono h fun _ _ h => h.mono hb
theorem Good.head (h : Good B d) (ok : d.ok) (a : Nat) (ha : a < 2) : rheadS (d.nowAt a) = headS (d.nowAt a) ∧ ∀ x, headS (d.nowAt a) = some x → x.ok ∧ x.g < B ∧ x.f < B := by
  by_cases hk : a < d.on.length
  · exact ((Ev.now h a hk).1 ha).head
  · rw [nowAt_far ok a (by omega), rheadS_nil, headS_nil]
    exact ⟨rfl, fun x hx => by cases hx⟩
theorem Good.heads (h : Good B d) (ok : d.ok) : d.rheads = d.heads ∧ ∀ x a, d.heads = some (x, a) → x.ok ∧ x.g < B ∧ x.f < B ∧ a ≤ 1 := by
  obtain ⟨e0, h0⟩ := h.head ok 0 (by decide)
  obtain ⟨e1, h1⟩ := h.head ok 1 (by decide)
  refine ⟨by unfold Dm.rheads Dm.heads; rw [e0, e1], fun x a hx => ?_⟩
  unfold Dm.heads at hx
  rcases countS_at hx with ⟨rfl, hy⟩ | ⟨rfl, hy⟩
  · obtain ⟨i, j, k⟩ := h0 x hy; exact ⟨i, j, k, by decide⟩
  · obtain ⟨i, j, k⟩ := h1 x hy; exact ⟨i, j, k, by decide⟩
theorem Good.next (h : Good B d) (ok : d.ok) (n f : Nat) (hn : 0 < n) (hf : f ≤ B) (hB : B < 18446744073709551616) : nextF d.nowAt n f ≤ B := by
  obtain ⟨_, _, h3⟩ := nextF_is d.nowAt n f hn
  rcases h3 with e | ⟨q, s, hq, e⟩
  · omega
  · obtain ⟨e1, e2⟩ := sheetF_q hq
    have hlt : q < B := by
      by_cases hk : 2 + q % n < d.on.length
      · have := (Ev.now h _ hk).2 (by omega) s e2
        omega
      · rw [nowAt_far ok _ (by omega)] at e2
        exact absurd (takeS_some e2).1 (by decide)
    have : (q + 1) % 18446744073709551616 ≤ q + 1 := Nat.mod_le _ _
    omega
theorem head_GP (x : Hd) (o : x.ok) (hg : x.g < B) (hf : x.f < B) (a : Nat) (ha : a < 2) : GP B a (hsec x) := ⟨fun _ => .inr ⟨x, o, hg, hf, rfl⟩, fun h => by omega⟩
theorem otherI_eq (a : Nat) (ha : a ≤ 1) : otherI (a : Int) = 1 - a := by
  unfold otherI
  split <;> omega
/-- A log is formatted: as the document's own words do it. -/
theorem Good.format (h : Good B d) (ok : d.ok) (n : Int) (note : List UInt8) : d.formatR n note = d.formatS n note := by
  obtain ⟨e, hh⟩ := h.heads ok
  unfold Dm.formatR Dm.formatS
  rw [e]
  rcases hx : d.heads with _ | ⟨x, a⟩
  · have : d.nextH (nextF d.nowAt n.toNat 1) n.toNat note = (⟨1, nextF d.nowAt n.toNat 1, n.toNat, note⟩, 1) := by unfold Dm.nextH; rw [hx]
    rw [this]
    rfl
  · have ha := (hh x a hx).2.2.2
    have : d.nextH (nextF d.nowAt n.toNat 1) n.toNat note = (⟨(x.g + 1) % 18446744073709551616, nextF d.nowAt n.toNat 1, n.toNat, note⟩, 1 - a) := by unfold Dm.nextH; rw [hx]
    rw [this]
    show (if (!mayFormat d n note) = true then (d, (2 : Int)) else if (!d.power) = true then (d, 4) else d.putHead (otherI (a : Int)) _) = _
    rw [otherI_eq a ha]
    rfl
theorem Good.formatted (h : Good B d) (ok : d.ok) (hw : d.wait.length + 1 < 1073741824) (hB : B + 10 < 18446744073709551616) (hB1 : 1 ≤ B) (n : Int) (note : List UInt8) : Good (B + 2) (d.formatS n note).1 := by
  obtain ⟨_, hh⟩ := h.heads ok
  unfold Dm.formatS
  rcases hm : mayFormat d n note with _ | _
  · exact h.up (by omega)
  · rcases hp : d.power with _ | _
    · exact h.up (by omega)
    · simp only [mayFormat, Bool.and_eq_true, decide_eq_true_eq] at hm
      have hnx := h.next ok n.toNat 1 (by omega) hB1 (by omega)
      obtain ⟨x, hx⟩ : ∃ x, d.nextH (nextF d.nowAt n.toNat 1) n.toNat note = x := ⟨_, rfl⟩
      have key : x.1.ok ∧ x.1.g < B + 2 ∧ x.1.f < B + 2 ∧ x.2 < 2 := by
        rw [← hx]
        unfold Dm.nextH
        rcases hd : d.heads with _ | ⟨y, a⟩
        · exact ⟨⟨(by show 1 < 18446744073709551616; decide), (by show nextF d.nowAt n.toNat 1 < _; omega), (by show 96 ≤ n.toNat; omega), (by show n.toNat ≤ 512; omega), hm.2⟩, (by show 1 < _; omega), (by show nextF d.nowAt n.toNat 1 < _; omega), (by show 1 < 2; decide)⟩
        · obtain ⟨yo, yg, yf, ya⟩ := hh y a hd
          have e1 : (y.g + 1) % 18446744073709551616 = y.g + 1 := Nat.mod_eq_of_lt (by omega)
          refine ⟨⟨(by show (y.g + 1) % 18446744073709551616 < _; omega), (by show nextF d.nowAt n.toNat 1 < _; omega), (by show 96 ≤ n.toNat; omega), (by show n.toNat ≤ 512; omega), hm.2⟩, (by show (y.g + 1) % 18446744073709551616 < _; omega), (by show nextF d.nowAt n.toNat 1 < _; omega), (by show 1 - a < 2; omega)⟩
      rw [hx]
      show Good (B + 2) (d.putHead x.2 x.1).1
      exact Ev.putHead (h.up (by omega)) ok hw x.2 x.1 (head_GP x.1 key.1 key.2.1 key.2.2.1 x.2 key.2.2.2)
/-- What is known of a log that is remembered. -/
structure Lk (B : Nat) (d : Dm) (l : Lm) : Prop where
  h_ : l.h.ok
  a_ : l.a ≤ 1
  g_ : l.h.g < B
  f_ : l.h.f < B
  next_ : l.next ≤ B
  left_ : l.left ≤ l.h.n
  in_ : 2 + l.h.n ≤ d.on.length
theorem Lk.up {B' : Nat} {d' : Dm} {l : Lm} (h : Lk B d l) (hb : B ≤ B') (hd : d'.on.length = d.on.length) : Lk B' d' l :=
  ⟨h.h_, h.a_, by have := h.g_; omega, by have := h.f_; omega, by have := h.next_; omega, h.left_, by rw [hd]; exact h.in_⟩
theorem Lk.ok {l : Lm} (h : Lk B d l) (hB : B < 18446744073709551616) : l.ok := ⟨h.h_, h.a_, by have := h.next_; omega, by have := h.left_; have := h.h_.hi; omega⟩
theorem putHead_code (d : Dm) (a : Nat) (x : Hd) (ha : a < d.on.length) (hx : x.ok) : (d.putHead a x).2 = 0 ∨ (d.putHead a x).2 = 4 := by
  have hs : secB d (a : Int) = true := by simp [secB]; omega
  have h5 : ((hsec x).length == 512) = true := by rw [hsec_length x hx.note_]; rfl
  have hw : (d.writeS a (hsec x)).2 = 0 ∨ (d.writeS a (hsec x)).2 = 4 := by
    unfold Dm.writeS
    rw [hs, h5]
    split
    · exact .inr rfl
    · simp only [Bool.and_true, Bool.not_true, Bool.false_eq_true, if_false]
      split
      · exact .inr rfl
      · exact .inl rfl
  unfold Dm.putHead
  generalize d.writeS a (hsec x) = r at hw ⊢
  obtain ⟨d1, e⟩ := r
  dsimp only at hw ⊢
  split
  · unfold Dm.flushS
    split
    · exact .inr rfl
    · split
      · exact .inr rfl
      · exact .inl rfl
  · next hz => exact .inr (hw.resolve_left hz)
theorem on_putHead (d : Dm) (a : Nat) (x : Hd) : (d.putHead a x).1.on.length = d.on.length := by
  unfold Dm.putHead
  have h1 := on_writeS d a (hsec x)
  generalize d.writeS a (hsec x) = r at h1 ⊢
  obtain ⟨d1, e⟩ := r
  dsimp only at h1 ⊢
  split
  · rw [on_flushS, h1]
  · exact h1
theorem Lk.newOk {l : Lm} (h : Lk B d l) (hB : B + 10 < 18446744073709551616) : l.newHead.ok ∧ l.newHead.g < B + 2 ∧ l.newHead.f < B + 2 := by
  have e1 : (l.h.g + 1) % 18446744073709551616 = l.h.g + 1 := Nat.mod_eq_of_lt (by have := h.g_; omega)
  refine ⟨⟨Nat.mod_lt _ (by decide), (by show l.next < _; have := h.next_; omega), h.h_.lo, h.h_.hi, h.h_.note_⟩, ?_, ?_⟩
  · show (l.h.g + 1) % 18446744073709551616 < _
    have := h.g_; omega
  · show l.next < _
    have := h.next_; omega
/-- A log is trimmed: as the document's own words do it. -/
theorem Lk.trim {l : Lm} (h : Lk B d l) (hg : Good B d) (ok : d.ok) (hw : d.wait.length + 1 < 1073741824) (hB : B + 10 < 18446744073709551616) (hd : l.dead = false) :
    (l.trimS d).2.1 = (d.putHead (otherI l.a) l.newHead).1 ∧ (l.trimS d).2.2 = (d.putHead (otherI l.a) l.newHead).2 ∧
    (if (d.putHead (otherI l.a) l.newHead).2 = 0 then mcs { l with h := l.newHead, a := otherI l.a } 0 else mcs { l with dead := true } ((l.h.n : Int) - l.left)) = mcs (l.trimS d).1 (((l.trimS d).1.h.n : Int) - (l.trimS d).1.left) ∧
    Good (B + 2) (l.trimS d).2.1 ∧ Lk (B + 2) (l.trimS d).2.1 (l.trimS d).1 := by
  obtain ⟨n1, n2, n3⟩ := h.newOk hB
  have ha := h.a_
  have hin := h.in_
  have hlo := h.h_.lo
  have hc := putHead_code d (1 - l.a) l.newHead (by omega) n1
  have hgd := Ev.putHead (P := GP (B + 2)) (hg.up (by omega)) ok hw (1 - l.a) l.newHead (head_GP _ n1 n2 n3 _ (by omega))
  have hon := on_putHead d (1 - l.a) l.newHead
  rw [otherI_eq l.a ha]
  have e : l.trimS d = if (d.putHead (1 - l.a) l.newHead).2 = 0 then ({ l with h := l.newHead, a := 1 - l.a, left := l.h.n }, (d.putHead (1 - l.a) l.newHead).1, 0) else ({ l with dead := (d.putHead (1 - l.a) l.newHead).2 == 4 }, (d.putHead (1 - l.a) l.newHead).1, (d.putHead (1 - l.a) l.newHead).2) := by
    unfold Lm.trimS
    rw [hd]
    rfl
  rw [e]
  generalize d.putHead (1 - l.a) l.newHead = r at hc hgd hon ⊢
  obtain ⟨d1, c⟩ := r
  dsimp only at hc hgd hon ⊢
  rcases hc with rfl | rfl
  · rw [if_pos rfl, if_pos rfl]
    refine ⟨rfl, rfl, ?_, hgd, ⟨n1, (by show 1 - l.a ≤ 1; omega), n2, n3, (by show l.next ≤ _; have := h.next_; omega), Nat.le_refl _, (by show 2 + l.h.n ≤ d1.on.length; omega)⟩⟩
    show mcs _ 0 = mcs _ ((l.h.n : Int) - (l.h.n : Nat))
    rw [Int.sub_self]
    rfl
  · rw [if_neg (by decide), if_neg (by decide)]
    refine ⟨rfl, rfl, rfl, hgd, ⟨h.h_, ha, (by show l.h.g < _; have := h.g_; omega), (by show l.h.f < _; have := h.f_; omega), (by show l.next ≤ _; have := h.next_; omega), h.left_, (by show 2 + l.h.n ≤ d1.on.length; omega)⟩⟩
theorem writeS_code (d : Dm) (a : Nat) (x : List UInt8) (ha : a < d.on.length) (hx : x.length = 512) : (d.writeS a x).2 = 0 ∨ (d.writeS a x).2 = 4 := by
  have hs : secB d (a : Int) = true := by simp [secB]; omega
  have h5 : (x.length == 512) = true := by rw [hx]; rfl
  unfold Dm.writeS
  rw [hs, h5]
  split
  · exact .inr rfl
  · simp only [Bool.and_true, Bool.not_true, Bool.false_eq_true, if_false]
    split
    · exact .inr rfl
    · exact .inl rfl
theorem flushS_code (d : Dm) : d.flushS.2 = 0 ∨ d.flushS.2 = 4 := by
  unfold Dm.flushS
  split
  · exact .inr rfl
  · split
    · exact .inr rfl
    · exact .inl rfl
theorem putAll_code (n : Nat) (hn : 0 < n) : ∀ (ss : List Sh) (d : Dm), 2 + n ≤ d.on.length → (∀ s ∈ ss, s.t.length ≤ 497) → ((Dm.putAll n ss d).2 = 0 ∨ (Dm.putAll n ss d).2 = 4) ∧ (Dm.putAll n ss d).1.on.length = d.on.length
  | [], d, _, _ => ⟨flushS_code d, on_flushS d⟩
  | s :: r, d, hl, hs => by
    have hm := Nat.mod_lt s.q hn
    have h1 := writeS_code d (2 + s.q % n) (secL s.q s.last s.t) (by omega) (secL_length _ _ _ (hs s (by simp)))
    have h2 := on_writeS d ((2 + s.q % n : Nat) : Int) (secL s.q s.last s.t)
    unfold Dm.putAll
    generalize d.writeS ((2 + s.q % n : Nat) : Int) (secL s.q s.last s.t) = x at h1 h2 ⊢
    obtain ⟨d1, e⟩ := x
    dsimp only at h1 h2 ⊢
    split
    · have ih := putAll_code n hn r d1 (by omega) (fun x hx => hs x (by simp [hx]))
      exact ⟨ih.1, by rw [ih.2, h2]⟩
    · exact ⟨h1, h2⟩
theorem cutL_mem {q : Nat} {t : List UInt8} {s : Sh} (h : s ∈ cutL q t) : ∃ i, i < need t.length ∧ s = shAt q t i := by
  simp only [cutL, List.mem_map, List.mem_range] at h
  obtain ⟨i, hi, rfl⟩ := h
  exact ⟨i, hi, rfl⟩
/-- What is committed leaves the log and the disk as they may be. -/
theorem Lk.commit {l : Lm} (h : Lk B d l) (hg : Good B d) (ok : d.ok) (hw : d.wait.length + 1000 < 1073741824) (hB : B + 2000 < 18446744073709551616) (t : List UInt8) : Good (B + 600) (l.commitS d t).2.1 ∧ Lk (B + 600) (l.commitS d t).2.1 (l.commitS d t).1 := by
  have hn5 := h.h_.hi
  have hnx := h.next_
  have hlf := h.left_
  have hin := h.in_
  have hlo := h.h_.lo
  unfold Lm.commitS
  split
  · exact ⟨hg.up (by omega), h.up (by omega) rfl⟩
  · split
    · exact ⟨hg.up (by omega), h.up (by omega) rfl⟩
    · split
      · exact ⟨hg.up (by omega), h.up (by omega) rfl⟩
      · next _ h1 h2 =>
        have hgd := Ev.putAll (P := GP (B + 600)) l.h.n (by omega) (cutL l.next t) d (hg.up (by omega)) ok (by rw [cutL_length]; omega) (fun s hs => by
          obtain ⟨i, hi, rfl⟩ := cutL_mem hs
          refine ⟨fun hk => by omega, fun _ s' hs' => ?_⟩
          rw [takeS_secL _ _ _ (shAt_lt _ _ _) (shAt_le _ _ _)] at hs'
          injection hs' with hs'
          subst hs'
          show (l.next + i) % 18446744073709551616 < B + 600
          have := Nat.mod_le (l.next + i) 18446744073709551616
          omega)
        have hon := (putAll_code l.h.n (by omega) (cutL l.next t) d hin (fun s hs => by
          obtain ⟨i, _, rfl⟩ := cutL_mem hs
          exact shAt_le _ _ _)).2
        generalize Dm.putAll l.h.n (cutL l.next t) d = r at hgd hon ⊢
        obtain ⟨d1, e⟩ := r
        dsimp only at hgd hon ⊢
        have := Nat.mod_le (l.next + need t.length) 18446744073709551616
        split
        · exact ⟨hgd, ⟨h.h_, h.a_, (by show l.h.g < _; have := h.g_; omega), (by show l.h.f < _; have := h.f_; omega), (by show (l.next + need t.length) % 18446744073709551616 ≤ _; omega), (by show l.left - need t.length ≤ l.h.n; omega), by rw [hon]; exact hin⟩⟩
        · exact ⟨hgd, ⟨h.h_, h.a_, (by show l.h.g < _; have := h.g_; omega), (by show l.h.f < _; have := h.f_; omega), (by show l.next ≤ _; omega), hlf, by rw [hon]; exact hin⟩⟩
/-- A log is opened: as the document's own words do it. -/
theorem Good.open (h : Good B d) (ok : d.ok) : d.ropen = (match d.heads with | some (x, a) => if 2 + x.n ≤ d.on.length then some (x, a) else none | none => none) := by
  obtain ⟨e, hh⟩ := h.heads ok
  unfold Dm.ropen
  rw [e]
  rcases hx : d.heads with _ | ⟨x, a⟩
  · rfl
  · have := (hh x a hx).1.lo
    dsimp only
    by_cases hc : 2 + x.n ≤ d.on.length
    · rw [if_pos ⟨by omega, hc⟩, if_pos hc]
    · rw [if_neg (fun h => hc h.2), if_neg hc]
theorem Good.opened (h : Good B d) (ok : d.ok) (hB : B + 10 < 18446744073709551616) {x : Hd} {a : Nat} (hx : d.heads = some (x, a)) (hl : 2 + x.n ≤ d.on.length) : Lk B d ⟨x, a, nextF d.nowAt x.n x.f, 0, false⟩ := by
  obtain ⟨i, j, k, m⟩ := (h.heads ok).2 x a hx
  exact ⟨i, m, j, k, h.next ok x.n x.f (by have := i.lo; omega) (by omega) (by omega), Nat.zero_le _, hl⟩
end
end Go.Proofs.YtfcljcikajaedaaGreatDoor
