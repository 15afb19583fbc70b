/- A log that is known, in the document's words: a new disk, formatted, opened, trimmed, two texts, opened again. No condition. -/
import Derived.Test.YtfcljcikajaedaaDoorMg45
namespace Go.Proofs.YtfcljcikajaedaaDoor

theorem putAll_unlit (n : Nat) (hn : 0 < n) : ∀ (ss : List Sh) (d : Dm), d.power = true → d.lit = false → (∀ s ∈ ss, s.t.length ≤ 497) → 2 + n ≤ d.on.length → (Dm.putAll n ss d).2 = 0 ∧ (Dm.putAll n ss d).1.lit = false
  | [], d, hp, hlit, _, _ => by
    have ho : d.out = false := by simp [Dm.out, hlit]
    have e : Dm.putAll n [] d = (d.act.all, 0) := by
      show d.flushS = _
      simp [Dm.flushS, hp, ho]
    rw [e]
    exact ⟨rfl, hlit⟩
  | s :: r, d, hp, hlit, hl, hlen => by
    have ho : d.out = false := by simp [Dm.out, hlit]
    have hm := Nat.mod_lt s.q hn
    have hs : secB d ((2 + s.q % n : Nat) : Int) = true := by simp [secB]; omega
    have h5 : (secL s.q s.last s.t).length = 512 := secL_length _ _ _ (hl s (by simp))
    have e : d.writeS ((2 + s.q % n : Nat) : Int) (secL s.q s.last s.t) = (d.act.push (2 + s.q % n) (secL s.q s.last s.t), 0) := by
      simp only [Dm.writeS, hp, hs, h5, ho]
      rfl
    rw [putAll_cons, e, if_pos rfl]
    exact putAll_unlit n hn r _ hp hlit (fun x hx => hl x (by simp [hx])) hlen
theorem commit_unlit {d : Dm} {l : Lm} {ss : List Sh} {N : Nat} (h : Wi d.on l ss N) (tx : List UInt8) (hN : N + 512 < 18446744073709551616) (hu : Up d) (hlit : d.lit = false) (hle : need tx.length ≤ l.left) :
    ∃ l' d' ss', l.commitS d tx = (l', d', 0) ∧ Wi d'.on l' ss' (N + 512) ∧ parse [] ss' = parse [] ss ++ [tx] ∧ Up d' ∧ d'.lit = false ∧ l'.left = l.left - need tx.length ∧ l'.h = l.h ∧ l'.a = l.a := by
  have hfew := h.few
  have hn : 0 < l.h.n := by have := h.o.hok.lo; omega
  obtain ⟨p1, p2⟩ := putAll_unlit l.h.n hn (cutL l.next tx) d hu.power hlit (shLe _ _) h.o.len
  have e := commit_eq l d tx h.alive (by omega) (by omega)
  rw [if_pos p1] at e
  rcases commit_out h tx hN hu with ⟨_, ⟨ss', c2, c3⟩, c4⟩ | ⟨c1, _⟩ | ⟨c1, _⟩
  · rw [e] at c2 c4
    exact ⟨_, _, ss', e, c2, c3, c4, p2, rfl, rfl, rfl⟩
  · rw [e] at c1
    rcases c1 with c1 | c1 <;> cases c1
  · rw [e] at c1
    cases c1
theorem lm_ok {on : List (List UInt8)} {l : Lm} {N : Nat} (h : Wo on l N) (hN : N < 18446744073709551616) (hl : l.left ≤ 512) : l.ok :=
  ⟨h.hok, by rcases countS_at h.heads with ⟨e, _⟩ | ⟨e, _⟩ <;> omega, by have := h.nextN; omega, hl⟩
theorem heads_small {d : Dm} {l : Lm} {N : Nat} (hu : d.wait = []) (h : Wo d.on l N) (hN : N + 513 < 18446744073709551616) : ∀ hd a, d.heads = some (hd, a) → hd.f + 513 < 18446744073709551616 := fun hd a hh => by
  unfold Dm.heads at hh
  rw [Up.now hu, h.heads] at hh
  injection hh with hh
  injection hh with hh _
  have h1 := h.first
  have h2 := h.nextN
  rw [← hh]
  omega
/-- What wakes goes through. -/
structure WakeM (d1 d2 d3 d4 : Dm) (l0 l1 l2 l3 l4 : Lm) : Prop where
  f : (newDm 100).formatS 96 [110] = (d1, 0)
  o1 : d1.openS = (some (l0, []), 0)
  c0 : l0.commitS d1 [97] = (l0, d1, 5)
  t : l0.trimS d1 = (l1, d2, 0)
  ca : l1.commitS d2 [97] = (l2, d3, 0)
  cb : l2.commitS d3 [98] = (l3, d4, 0)
  left3 : l3.left = 94
  o4 : d4.openS = (some (l4, [[97], [98]]), 0)
  note4 : l4.h.note = [110]
  n4 : l4.h.n = 96
  left4 : l4.left = 0
  ok0 : l0.ok
  ok1 : l1.ok
  ok2 : l2.ok
  h1 : ∀ hd a, d1.heads = some (hd, a) → hd.f + 513 < 18446744073709551616
  h4 : ∀ hd a, d4.heads = some (hd, a) → hd.f + 513 < 18446744073709551616
  w1 : d1.wait = []
  w2 : d2.wait = []
  w3 : d3.wait = []
theorem newDm_on (n : Nat) : (newDm n).on = List.replicate n zsec0 := rfl
theorem newDm_up (n : Nat) : Up (newDm n) := ⟨rfl, rfl⟩
theorem newDm_lit (n : Nat) : (newDm n).lit = false := rfl
set_option maxRecDepth 10000 in
theorem wake_model : ∃ d1 d2 d3 d4 l0 l1 l2 l3 l4, WakeM d1 d2 d3 d4 l0 l1 l2 l3 l4 := by
  obtain ⟨f1, _, f3, f4, l0, o1, w0, x0, x1, x2, x3⟩ := format_new (newDm_up 100) (newDm_lit 100) 96 100 (newDm_on 100) [110] (by decide) (by decide) (by decide) (by decide)
  obtain ⟨d1, e1⟩ : ∃ d1, ((newDm 100).formatS ((96 : Nat) : Int) [110]).1 = d1 := ⟨_, rfl⟩
  rw [e1] at f3 f4 o1 w0
  have c0 : l0.commitS d1 [97] = (l0, d1, 5) := by
    unfold Lm.commitS
    rw [x0, if_neg (by decide), x2, if_neg (by decide), x1, if_pos (by decide)]
  obtain ⟨t1, t2⟩ := trim_unlit w0 x0 f3 f4
  rcases trim_out w0 (by decide) x0 f3 with ⟨_, wi1, u2⟩ | ⟨t3, _⟩
  · obtain ⟨l1, d2, r2, e2⟩ : ∃ l1 d2 r2, l0.trimS d1 = (l1, d2, r2) := ⟨_, _, _, rfl⟩
    rw [e2] at t1 t2 wi1 u2
    dsimp only at t1 t2 wi1 u2
    subst t1
    have hl1 : l1.h = l0.newHead ∧ l1.left = l0.h.n := by
      have := trim_eq l0 d1 x0
      rw [e2] at this
      split at this
      · injection this with h1 _
        rw [h1]
        exact ⟨rfl, rfl⟩
      · next hne =>
        injection this with _ h2
        injection h2 with _ h2
        exact absurd h2.symm hne
    obtain ⟨l2, d3, ss2, e3, wi2, p2, u3, lit3, lf2, hh2, _⟩ := commit_unlit wi1 [97] (by decide) u2 t2 (by rw [hl1.2, x2]; decide)
    obtain ⟨l3, d4, ss3, e4, wi3, p3, u4, lit4, lf3, hh3, _⟩ := commit_unlit wi2 [98] (by decide) u3 lit3 (by rw [lf2, hl1.2, x2]; decide)
    obtain ⟨l4, o4, w4, y0, y1, _⟩ := open_out wi3.cut (by decide) u4
    have hpar : parse [] ss3 = [[97], [98]] := by rw [p3, p2]; rfl
    rw [hpar] at o4
    have hh4 : l4.h = l3.h := by
      have a1 := w4.heads
      rw [wi3.o.heads] at a1
      injection a1 with a1
      injection a1 with a1 _
      exact a1.symm
    have hf : (newDm 100).formatS 96 [110] = (d1, 0) := pair_eta _ _ _ e1 f1
    have hnote : l4.h.note = [110] := by rw [hh4, hh3, hh2, hl1.1]; exact x3
    have hn : l4.h.n = 96 := by rw [hh4, hh3, hh2, hl1.1]; exact x2
    have hlf3 : l3.left = 94 := by rw [lf3, lf2, hl1.2, x2]; decide
    exact ⟨d1, d2, d3, d4, l0, l1, l2, l3, l4, hf, o1, c0, e2, e3, e4, hlf3, o4, hnote, hn, y1,
      lm_ok w0 (by decide) (by rw [x1]; decide), lm_ok wi1.o (by decide) (by have := wi1.few; have := wi1.o.hok.hi; omega), lm_ok wi2.o (by decide) (by have := wi2.few; have := wi2.o.hok.hi; omega),
      heads_small f3.wait w0 (by decide), heads_small u4.wait w4 (by decide), f3.wait, u2.wait, u3.wait⟩
  · rw [t1] at t3
    cases t3
end Go.Proofs.YtfcljcikajaedaaDoor
