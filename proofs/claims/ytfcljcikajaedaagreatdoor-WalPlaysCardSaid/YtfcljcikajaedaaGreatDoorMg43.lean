/- A log that is known, in the document's words: a new disk, formatted, opened, trimmed, two texts, opened again. No condition. -/
import Derived.Test.YtfcljcikajaedaaGreatDoorMg36
import Derived.Test.YtfcljcikajaedaaGreatDoorMg13
namespace Go.Proofs.YtfcljcikajaedaaGreatDoor

theorem putAll_unlit (n : Nat) (hn : 0 < n) : ∀ (ss : List Sh) (d : Dm), d.power = true → d.lit = false → (∀ s ∈ ss, s.t.length ≤ 497) → 2 + n ≤ d.on.length → (Dm.putAll n ss d).2 = 0 ∧ (Dm.putAll n ss d).1.lit = false
  | [], d, hp, hlit, _, _ => by
    have ho : d.out = false := by simp [Dm.out, hlit]
    have e : Dm.putAll n [] d = (d.act.all, 0) := by
      show d.flushS = _
      simp [Dm.flushS, hp, ho]
    rw [e]
    exact ⟨rfl, hlit⟩
  | s :: r, d, hp, hlit, hl, hlen => by
    have ho : d.out = false := by simp [Dm.out, hlit]
    have hm := Nat.mod_lt s.q hn
    have hs : secB d ((2 + s.q % n : Nat) : Int) = true := by simp [secB]; omega
    have h5 : (secL s.q s.last s.t).length = 512 := secL_length _ _ _ (hl s (by simp))
    have e : d.writeS ((2 + s.q % n : Nat) : Int) (secL s.q s.last s.t) = (d.act.push (2 + s.q % n) (secL s.q s.last s.t), 0) := by
      simp only [Dm.writeS, hp, hs, h5, ho]
      rfl
    rw [putAll_cons, e, if_pos rfl]
    exact putAll_unlit n hn r _ hp hlit (fun x hx => hl x (by simp [hx])) hlen
theorem commit_unlit {d : Dm} {l : Lm} {ss : List Sh} {N : Nat} (h : Wi d.on l ss N) (tx : List UInt8) (hN : N + 512 < 18446744073709551616) (hu : Up d) (hlit : d.lit = false) (hle : need tx.length ≤ l.left) :
    ∃ l' d' ss', l.commitS d tx = (l', d', 0) ∧ Wi d'.on l' ss' (N + 512) ∧ parse [] ss' = parse [] ss ++ [tx] ∧ Up d' ∧ d'.lit = false ∧ l'.left = l.left - need tx.length ∧ l'.h = l.h ∧ l'.a = l.a := by
  have hfew := h.few
  have hn : 0 < l.h.n := by have := h.o.hok.lo; omega
  obtain ⟨p1, p2⟩ := putAll_unlit l.h.n hn (cutL l.next tx) d hu.power hlit (shLe _ _) h.o.len
  have e := commit_eq l d tx h.alive (by omega) (by omega)
  rw [if_pos p1] at e
  rcases commit_out h tx hN hu with ⟨_, ⟨ss', c2, c3⟩, c4⟩ | ⟨c1, _⟩ | ⟨c1, _⟩
  · rw [e] at c2 c4
    exact ⟨_, _, ss', e, c2, c3, c4, p2, rfl, rfl, rfl⟩
  · rw [e] at c1
    rcases c1 with c1 | c1 <;> cases c1
  · rw [e] at c1
    cases c1
theorem lm_ok {on : List (List UInt8)} {l : Lm} {N : Nat} (h : Wo on l N) (hN : N < 18446744073709551616) (hl : l.left ≤ 512) : l.ok :=
  ⟨h.hok, by rcases countS_at h.heads with ⟨e, _⟩ | ⟨e, _⟩ <;> omega, by have := h.nextN; omega, hl⟩
theorem heads_small {d : Dm} {l : Lm} {N : Nat} (hu : d.wait = []) (h : Wo d.on l N) (hN : N + 513 < 18446744073709551616) : ∀ hd a, d.heads = some (hd, a) → hd.f + 513 < 18446744073709551616 := fun hd a hh => by
  unfold Dm.heads at hh
  rw [Up.now hu, h.heads] at hh
  injection hh with hh
  injection hh with hh _
  have h1 := h.first
  have h2 := h.nextN
  rw [← hh]
  omega
/-- What wakes goes through. -/
structure WakeM (d1 d2 d3 d4 : Dm) (l0 l1 l2 l3 l4 : Lm) : Prop where
  f : (newDm 100).formatS 96 [110] = (d1, 0)
  o1 : d1.openS = (some (l0, []), 0)
  c0 : l0.commitS d1 [97] = (l0, d1, 5)
  t : l0.trimS d1 = (l1, d2, 0)
  ca : l1.commitS d2 [97] = (l2, d3, 0)
  cb : l2.commitS d3 [98] = (l3, d4, 0)
  left3 : l3.left = 94
  o4 : d4.openS = (some (l4, [[97], [98]]), 0)
  note4 : l4.h.note = [110]
  n4 : l4.h.n = 96
  left4 : l4.left = 0
  ok0 : l0.ok
  ok1 : l1.ok
  ok2 : l2.ok
  h1 : ∀ hd a, d1.heads = some (hd, a) → hd.f + 513 < 18446744073709551616
  h4 : ∀ hd a, d4.heads = some (hd, a) → hd.f + 513 < 18446744073709551616
  w1 : d1.wait = []
  w2 : d2.wait = []
  w3 : d3.wait = []
theorem newDm_on (n : Nat) : (newDm n).on = List.replicate n zsec0 := rfl
theorem newDm_up (n : Nat) : Up (newDm n) := ⟨rfl, rfl⟩
theorem newDm_lit (n : Nat) : (newDm n).lit = false := rfl
set_option maxRecDepth 10000 in
theorem wake_model : ∃ d1 d2 d3 d4 l0 l1 l2 l3 l4, WakeM d1 d2 d3 d4 l0 l1 l2 l3 l4 := by
  obtain ⟨f1, _, f3, f4, l0, o1, w0, x0, x1, x2, x3⟩ := format_new (newDm_up 100) (newDm_lit 100) 96 100 (newDm_on 100) [110] (by decide) (by decide) (by decide) (by decide)
  obtain ⟨d1, e1⟩ : ∃ d1, ((newDm 100).formatS ((96 : Nat) : Int) [110]).1 = d1 := ⟨_, rfl⟩
  rw [e1] at f3 f4 o1 w0
  have c0 : l0.commitS d1 [97] = (l0, d1, 5) := by
    unfold Lm.commitS
    rw [x0, if_neg (by decide), x2, if_neg (by decide), x1, if_pos (by decide)]
  obtain ⟨t1, t2⟩ := trim_unlit w0 x0 f3 f4
  rcases trim_out w0 (by decide) x0 f3 with ⟨_, wi1, u2⟩ | ⟨t3, _⟩
  · obtain ⟨l1, d2, r2, e2⟩ : ∃ l1 d2 r2, l0.trimS d1 = (l1, d2, r2) := ⟨_, _, _, rfl⟩
    rw [e2] at t1 t2 wi1 u2
    dsimp only at t1 t2 wi1 u2
    subst t1
    have hl1 : l1.h = l0.newHead ∧ l1.left = l0.h.n := by
      have := trim_eq l0 d1 x0
      rw [e2] at this
      split at this
      · injection this with h1 _
        rw [h1]
        exact ⟨rfl, rfl⟩
      · next hne =>
        injection this with _ h2
        injection h2 with _ h2
        exact absurd h2.symm hne
    obtain ⟨l2, d3, ss2, e3, wi2, p2, u3, lit3, lf2, hh2, _⟩ := commit_unlit wi1 [97] (by decide) u2 t2 (by rw [hl1.2, x2]; decide)
    obtain ⟨l3, d4, ss3, e4, wi3, p3, u4, lit4, lf3, hh3, _⟩ := commit_unlit wi2 [98] (by decide) u3 lit3 (by rw [lf2, hl1.2, x2]; decide)
    obtain ⟨l4, o4, w4, y0, y1, _⟩ := open_out wi3.cut (by decide) u4
    have hpar : parse [] ss3 = [[97], [98]] := by rw [p3, p2]; rfl
    rw [hpar] at o4
    have hh4 : l4.h = l3.h := by
      have a1 := w4.heads
      rw [wi3.o.heads] at a1
      injection a1 with a1
      injection a1 with a1 _
      exact a1.symm
    have hf : (newDm 100).formatS 96 [110] = (d1, 0) := pair_eta _ _ _ e1 f1
    have hnote : l4.h.note = [110] := by rw [hh4, hh3, hh2, hl1.1]; exact x3
    have hn : l4.h.n = 96 := by rw [hh4, hh3, hh2, hl1.1]; exact x2
    have hlf3 : l3.left = 94 := by rw [lf3, lf2, hl1.2, x2]; decide
    exact ⟨d1, d2, d3, d4, l0, l1, l2, l3, l4, hf, o1, c0, e2, e3, e4, hlf3, o4, hnote, hn, y1,
      lm_ok w0 (by decide) (by rw [x1]; decide), lm_ok wi1.o (by decide) (by have := wi1.few; have := wi1.o.hok.hi; omega), lm_ok wi2.o (by decide) (by have := wi2.few; have := wi2.o.hok.hi; omega),
      heads_small f3.wait w0 (by decide), heads_small u4.wait w4 (by decide), f3.wait, u2.wait, u3.wait⟩
  · rw [t1] at t3
    cases t3
end Go.Proofs.YtfcljcikajaedaaGreatDoor

/- wakes: the log that is known answers as the document says. Condition: the table of half bytes reads as the program's text lays it. -/
namespace Go.Proofs.YtfcljcikajaedaaGreatDoor
open Go.RowKit Go.Maps

theorem newB {B : Nat} {W : World} (h : B ≤ W.heap.size) : ∀ k, W.heap.size ≤ k → B ≤ k := fun _ hk => Nat.le_trans h hk
set_option maxRecDepth 100000 in
set_option maxHeartbeats 8000000 in
theorem wakes_true (w : World) (ht : Tbl w) : Calls Tryz.prog 6 #[] w fun e w' => e = .returned (.bool true) ∧ Kp (fun _ => False) w w' := by
  obtain ⟨d1, d2, d3, d4, l0, l1, l2, l3, l4, hm⟩ := wake_model
  have M := Lib.hid hm
  have T0 := Lib.hid ht
  have hft : ¬ (w.heap.size ≤ 0) := by have := halves_old ht; omega
  clear hm ht
  go_enter Tryz.func6, Tryz.ntmps6
  go_wp2_with fail
  refine (dnew_any 100 (by decide) (by decide) w).mono ?_
  rintro e w1 ⟨b, rfl, hd, hk⟩
  have D1 := Lib.hid hd
  have K1 := Lib.hid (hk.of_false (S := fun k => w.heap.size ≤ k))
  have T1 := Lib.hid (T0.out.kp hk (fun e => e))
  clear hd hk
  go_wp2_with fail
  refine (format_any (newB K1.out.size) D1.out T1.out 96 [110] (by show 0 + 1 < _; decide)).mono ?_
  rintro e w2 ⟨rfl, hd, hk⟩
  rw [M.out.f] at hd ⊢
  have D2 := Lib.hid hd
  have K2 := Lib.hid (K1.out.trans hk)
  have T2 := Lib.hid (T1.out.kp hk hft)
  clear hd hk
  go_wp2_with fail
  have ho := open_any D2.out T2.out M.out.h1
  rw [M.out.o1] at ho
  refine ho.mono ?_
  clear ho
  rintro e w3 ⟨g, v, rfl, hg, hr, hgw, hk⟩
  obtain ⟨A, c, rfl⟩ := own_shape3 hr
  have G3 := Lib.hid hg
  have K3 := Lib.hid (K2.out.trans hk.of_false)
  have D3 := Lib.hid (D2.out.still hk)
  have T3 := Lib.hid (T2.out.kp hk (fun e => e))
  have hgb : w.heap.size ≤ g := Nat.le_trans K2.out.size hgw
  rw [show (([] : List (List UInt8)).length) = 0 from rfl]
  clear hg hr hk hgw
  go_wp2_with fail
  refine (commit_any (F := fun k => w.heap.size ≤ k) (newB K3.out.size) (fun h => hft h.1) D3.out T3.out G3.out M.out.ok0 [97] (by decide) (by rw [M.out.w1]; decide)).mono ?_
  rintro e w4 ⟨rfl, hd, hg, hk⟩
  rw [M.out.c0] at hd hg ⊢
  have D4 := Lib.hid hd
  have G4 := Lib.hid hg
  have K4 := Lib.hid (K3.out.trans (hk.mono (S' := fun k => w.heap.size ≤ k) (fun k _ e => by rcases e with e | rfl; exact e; exact hgb)))
  have T4 := Lib.hid (T3.out.kp hk (fun e => hft (by rcases e with e | e; exact e; rw [e]; exact hgb)))
  clear hd hg hk
  go_wp2_with fail
  refine (trim_any (F := fun k => w.heap.size ≤ k) (newB K4.out.size) D4.out T4.out G4.out M.out.ok0 (by rw [M.out.w1]; decide)).mono ?_
  rintro e w5 ⟨rfl, hd, hg, hk⟩
  rw [M.out.t] at hd hg ⊢
  have D5 := Lib.hid hd
  have G5 := Lib.hid hg
  have K5 := Lib.hid (K4.out.trans (hk.mono (S' := fun k => w.heap.size ≤ k) (fun k _ e => by rcases e with e | rfl; exact e; exact hgb)))
  have T5 := Lib.hid (T4.out.kp hk (fun e => hft (by rcases e with e | e; exact e; rw [e]; exact hgb)))
  clear hd hg hk
  go_wp2_with fail
  refine (commit_any (F := fun k => w.heap.size ≤ k) (newB K5.out.size) (fun h => hft h.1) D5.out T5.out G5.out M.out.ok1 [97] (by decide) (by rw [M.out.w2]; decide)).mono ?_
  rintro e w6 ⟨rfl, hd, hg, hk⟩
  rw [M.out.ca] at hd hg ⊢
  have D6 := Lib.hid hd
  have G6 := Lib.hid hg
  have K6 := Lib.hid (K5.out.trans (hk.mono (S' := fun k => w.heap.size ≤ k) (fun k _ e => by rcases e with e | rfl; exact e; exact hgb)))
  have T6 := Lib.hid (T5.out.kp hk (fun e => hft (by rcases e with e | e; exact e; rw [e]; exact hgb)))
  clear hd hg hk
  go_wp2_with fail
  refine (commit_any (F := fun k => w.heap.size ≤ k) (newB K6.out.size) (fun h => hft h.1) D6.out T6.out G6.out M.out.ok2 [98] (by decide) (by rw [M.out.w3]; decide)).mono ?_
  rintro e w7 ⟨rfl, hd, hg, hk⟩
  rw [M.out.cb] at hd hg ⊢
  have D7 := Lib.hid hd
  have G7 := Lib.hid hg
  have K7 := Lib.hid (K6.out.trans (hk.mono (S' := fun k => w.heap.size ≤ k) (fun k _ e => by rcases e with e | rfl; exact e; exact hgb)))
  have T7 := Lib.hid (T6.out.kp hk (fun e => hft (by rcases e with e | e; exact e; rw [e]; exact hgb)))
  clear hd hg hk
  go_wp2_with fail
  have ho := open_any D7.out T7.out M.out.h4
  rw [M.out.o4] at ho
  refine ho.mono ?_
  clear ho
  rintro e w8 ⟨g2, v2, rfl, hg, hr, _, hk⟩
  obtain ⟨b2, c2, rfl, _, hc⟩ := (RdR.of_own hr).cell (by decide)
  have x0 := hc 0 (.string ⟨#[97]⟩) rfl
  have x1 := hc 1 (.string ⟨#[98]⟩) rfl
  have G8 := Lib.hid hg
  have L8 := Lib.hid (G7.out.kp hk (fun e => e))
  have K8 := Lib.hid (K7.out.trans hk.of_false)
  have hl3 := M.out.left3
  have hn4 := M.out.note4
  have hs4 := M.out.n4
  have hl4 := M.out.left4
  rw [show (([[97], [98]] : List (List UInt8)).length) = 2 from rfl]
  clear hg hr hk hc
  go_wp2_with fail
  have hc1 := lleft_any L8.out
  rw [hl3] at hc1
  refine hc1.mono ?_
  clear hc1
  rintro e w9 ⟨rfl, rfl⟩
  go_wp2_with fail
  have hc1 := lnote_any G8.out
  rw [hn4] at hc1
  refine hc1.mono ?_
  clear hc1
  rintro e w9 ⟨rfl, rfl⟩
  go_wp2_with fail
  have hc1 := lsectors_any G8.out
  rw [hs4] at hc1
  refine hc1.mono ?_
  clear hc1
  rintro e w9 ⟨rfl, rfl⟩
  go_wp2_with fail
  have hc1 := lleft_any G8.out
  rw [hl4] at hc1
  refine hc1.mono ?_
  clear hc1
  rintro e w9 ⟨rfl, rfl⟩
  go_wp2_with fail
  go_ret
  exact ⟨rfl, K8.out.fresh _⟩
end Go.Proofs.YtfcljcikajaedaaGreatDoor
