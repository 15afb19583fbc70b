/- The law of pages, part 37 of 55: PgTrim PgNew PgCopy PgDone. -/
import Derived.Test.YtepaeliamhjgiaaGreatDoorMu1
import Derived.Test.YtepaeliamhjgiaaGreatDoorMu36
import Derived.Test.YtepaeliamhjgiaaGreatDoorMu30
import Derived.Maps.RangeWalk
set_option maxHeartbeats 16000000
set_option maxRecDepth 100000
namespace Go.Proofs.YtepaeliamhjgiaaGreatDoor
open Go.RowKit Go.Maps Go.Shelf
theorem pw_alive {s : Sm} {d : Dm} (hp : s.pw d = true) : s.dead = false /\ d.power = true := by
 unfold Sm.pw at hp
 revert hp
 cases s.dead <;> cases d.power <;> decide
theorem trimS_pw {s s1 : Sm} {d d1 : Dm} {q : Int} (hp : s.pw d = true) (hR : ({ s with dead := !true } : Sm).lateS d = (s1, d1, q)) :
  (q = 0 -> s.trimS d = ({ s1 with dead := s1.dead || (0 : Int) == 4, late := bnone }, d1, 0)) /\ (q ≠ 0 -> s.trimS d = ({ s1 with dead := s1.dead || q == 4 }, d1, q)) := by
 obtain ⟨hd, hpw⟩ := pw_alive hp
 obtain ⟨l, n, note, used, late, chg, cused, dead⟩ := s
 dsimp only at hd
 subst hd
 unfold Sm.lateS lateR at hR
 unfold Sm.trimS
 dsimp only at hR ⊢
 rw [if_neg (by rw [hpw]; decide)]
 generalize Dm.thenFlush (Dm.putPg (2 + l.h.n) late (late.keys n) d) = r at hR ⊢
 obtain ⟨d2, e⟩ := r
 dsimp only at hR ⊢
 by_cases he : e = 0
 ·rw [if_pos he] at hR
  rw [if_pos he]
  generalize l.trimS d2 = t at hR ⊢
  obtain ⟨l1, d3, e3⟩ := t
  dsimp only at hR ⊢
  injection hR with h1 h2
  injection h2 with h2 h3
  subst h1 h2 h3
  refine ⟨fun hq => ?_, fun hq => ?_⟩
  ·rw [if_pos hq]
   rfl
  ·rw [if_neg hq]
   rfl
 ·rw [if_neg he] at hR
  rw [if_neg he]
  injection hR with h1 h2
  injection h2 with h2 h3
  subst h1 h2 h3
  refine ⟨fun hq => absurd hq he, fun hq => rfl⟩
theorem Sto.newLate {F : Nat -> Prop} {w : World} {gs gl b g1 g2 : Nat} {s : Sm} {d : Dm} (h : Sto F w gs gl b g1 g2 s d) (hF : ∀ k, w.heap.size <= k -> F k) :
  Sto F ((w.alloc (.map #[] 0)).setCell ⟨gs, 20, none⟩ (.map (some w.heap.size))) gs gl b w.heap.size g2 { s with late := bnone } d /\ Kp (fun k => k = gs) w ((w.alloc (.map #[] 0)).setCell ⟨gs, 20, none⟩ (.map (some w.heap.size))) := by
 have k1 : Kp (fun _ => False) w (w.alloc (.map #[] 0)) := (Kp.refl _ w).alloc _
 have k2 := Kp.one (w.alloc (.map #[] 0)) gs 20 (.map (some w.heap.size))
 have hW := h.still k1
 obtain ⟨n1, n2, n3⟩ := h.g1ne
 have l2 := h.chg.lt
 have ls := h.box.lt
 refine ⟨⟨h.fs, h.fl, hF _ (Nat.le_refl _), h.f2, by omega, (hW.stb.setLate _).2.2, hW.lg.kp k2 n3, (Pgm.made w h.u.1).kp k2 (fun e => by have e : w.heap.size = gs := e; omega), hW.chg.kp k2 n2, ?_, h.u, h.cu⟩, k1.of_false.trans k2⟩
 obtain ⟨F1, hd1, hf1⟩ := h.dk.fit
 refine ((hd1.still k1).off hW.box ⟨by decide, by decide, by decide⟩ k2).mono fun k e => ?_
 obtain ⟨⟨e1, _, e3⟩, e4⟩ := hf1 k e
 exact ⟨e1, by omega, e3⟩
theorem ptrim_any {F : Nat -> Prop} {w : World} {gs gl b g1 g2 : Nat} {s : Sm} {d : Dm} (h : Sto F w gs gl b g1 g2 s d) (hF : ∀ k, w.heap.size <= k -> F k) (hFT : ¬ F 1) (tb : Tbl w) (hL : s.l.h.n <= 100000) (lok : s.l.ok) (hw : d.wait.length + 4000 < 1073741824) :
  Calls Tryz.prog 75 #[.pointer (some ⟨gs, 0, none⟩)] w fun e w' => e = .returned (.int .i64 (s.trimS d).2.2) /\ (∃ g1', Sto F w' gs gl b g1' g2 (s.trimS d).1 (s.trimS d).2.1) /\ Kp F w w' := by
 have H := hHd h
 have HF := hHd hF
 have HFT := hHd hFT
 have HTB := hHd tb
 have HL := hHd hL
 have LOK := hHd lok
 have HWT := hHd hw
 clear h hF hFT tb hL lok hw
 go_enter Tryz.func75, Tryz.ntmps75
 go_wp2_with fail
 obtain ⟨W3, hW3, b3, k3⟩ : ∃ W3, W3 = w.alloc (.cells (([(Stp.mk 63 #[.pointer (some ⟨gs, 0, none⟩)] #[])] ++ [pst gs]).map Stp.v).toArray 104) /\ Box W3 w.heap.size 104 (([(Stp.mk 63 #[.pointer (some ⟨gs, 0, none⟩)] #[])] ++ [pst gs]).map Stp.v).toArray /\ Kp (fun _ => False) w W3 := ⟨_, rfl, Box.new w _ _, (Kp.refl _ w).alloc _⟩
 have K3 := hHd k3
 have S3 := hHd (H.out.still K3.out)
 have hcall : ∀ W, W = W3 -> Calls Tryz.prog 42 #[.slice (some ⟨w.heap.size, 0, none⟩) 2 2] W _ := fun W e => by
  rw [e]
  exact check_order S3.out [(Stp.mk 63 #[.pointer (some ⟨gs, 0, none⟩)] #[])] [0] rfl (show 1 <= 90 by decide) b3 (fun st hst => by
   simp only [List.mem_cons, List.not_mem_nil, or_false] at hst
   subst hst
   exact enters_of Tryz.func63 (by kernel_rfl) rfl) (fun j st c V hj hc hk => by
   match j, hj, hc with
   |0, hj, hc =>
    injection hj with hj
    injection hc with hc
    subst hj
    subst hc
    exact (pis_any gs V).mono fun e w' ⟨he, hw⟩ => ⟨he, hw ▸ Kp.refl _ _⟩
   |j + 1, hj, hc => simp at hj) 2
 refine (hcall _ hW3.symm).mono ?_
 clear hcall hW3 b3
 rintro e V (⟨_, rfl, hs, hk⟩ | ⟨hz, _⟩)
 ·have K4 := hHd ((K3.out.of_false (S := F)).trans (hk.mono fun q _ e => by rw [show q = gs from e]; exact H.out.fs))
  clear k3
  rcases hp : s.pw d with _ | _
  ·rw [hp] at hs
   have HP := hHd hp
   have S4 := hHd hs
   clear hp hs hk
   go_wp2_with fail
   go_ret
   have hc : (s.dead || !d.power) = true := by
    have := HP.out
    unfold Sm.pw at this
    revert this
    cases s.dead <;> cases d.power <;> decide
   unfold Sm.trimS
   rw [if_pos hc]
   exact ⟨rfl, ⟨g1, S4.out⟩, K4.out⟩
  ·rw [hp] at hs
   have HP := hHd hp
   have S4 := hHd hs
   have T4 := hHd (HTB.out.kp K4.out HFT.out)
   have hVd : Kp (fun _ => False) V V.drew := (Kp.refl _ V).drew
   have Y0 := hHd (show V.drew.cell? ⟨gs, 0, none⟩ = some (.pointer (some ⟨gl, 0, none⟩)) from (hs.still hVd).cells.1)
   have Y1 := hHd (show V.drew.cell? ⟨gs, 1, none⟩ = some (.pointer (some ⟨b, 0, none⟩)) from (hs.still hVd).cells.2.1)
   clear hp hs hk hVd
   go_upto_region 4 with fail
   refine wp_region_held_drew (S := fun v => v.cell? ⟨gs, 0, none⟩ = some (.pointer (some ⟨gl, 0, none⟩)) /\ v.cell? ⟨gs, 1, none⟩ = some (.pointer (some ⟨b, 0, none⟩))) (by kernel_rfl) (⟨Y0.out, Y1.out⟩) (fun hHeld => ?_)
   refine tk 0 (h := ?_)
   refine tk 1 (h := ?_)
   refine tk 2 (h := ?_)
   refine tk 3 (h := ?_)
   refine tk 4 (h := ?_)
   refine tk 5 (h := ?_)
   refine tk 6 (v := ?_) (hy := ?_) (h := ?_)
   rotate_left
   ·intro v hSw
    have y := hSw.2
    go_simp
    with_reducible rfl
   refine tk 7 (h := ?_)
   refine tk 8 (h := ?_)
   refine tk 9 (h := ?_)
   refine tk 10 (h := ?_)
   refine tk 11 (v := ?_) (hy := ?_) (h := ?_)
   rotate_left
   ·intro v hSw
    have y := hSw.1
    go_simp
    with_reducible rfl
   refine tk 12 (h := ?_)
   refine rd 13 (h := fun K hK => ?_)
   go_simp
   obtain ⟨W6, hW6, bx6, k6⟩ : ∃ W6, W6 = (V.alloc (.cells ((([(Stp.mk 127 #[.pointer (some ⟨gs, 0, none⟩)] #[]), (Stp.mk 47 #[.pointer (some ⟨b, 0, none⟩)] #[]), (Stp.mk 48 #[.pointer (some ⟨gl, 0, none⟩)] #[])] : List Stp)).map Stp.v).toArray 104)).drew /\ Box W6 V.heap.size 104 ((([(Stp.mk 127 #[.pointer (some ⟨gs, 0, none⟩)] #[]), (Stp.mk 47 #[.pointer (some ⟨b, 0, none⟩)] #[]), (Stp.mk 48 #[.pointer (some ⟨gl, 0, none⟩)] #[])] : List Stp)).map Stp.v).toArray /\ Kp (fun _ => False) V W6 := ⟨_, rfl, Box.new V _ _, ((Kp.refl _ V).alloc _).drew⟩
   show K _ ((V.alloc (.cells ((([(Stp.mk 127 #[.pointer (some ⟨gs, 0, none⟩)] #[]), (Stp.mk 47 #[.pointer (some ⟨b, 0, none⟩)] #[]), (Stp.mk 48 #[.pointer (some ⟨gl, 0, none⟩)] #[])] : List Stp)).map Stp.v).toArray 104)).drew)
   rw [<- hW6]
   have B6 := hHd bx6
   have K6 := hHd (K4.out.trans (k6.of_false (S := F)))
   have S6 := hHd (S4.out.still k6)
   have T6 := hHd (T4.out.kp k6 (fun e => e))
   have Y06 := hHd S6.out.cells.1
   have Y16 := hHd S6.out.cells.2.1
   clear hW6 bx6 k6
   refine hK.out _ _ (⟨Y06.out, Y16.out⟩) (fun hHeld1 => ?_)
   clear hK K
   try simp only [Act.put, sIa, sI0, sI1]
   refine rd 14 (h := fun K hK => ?_)
   go_simp
   refine (late_order S6.out (fun k hk => HF.out k (Nat.le_trans K6.out.size hk)) HFT.out T6.out HL.out LOK.out HWT.out B6.out 3).mono ?_
   obtain ⟨R, hR⟩ : ∃ R, ({ s with dead := !true } : Sm).lateS d = R := ⟨_, rfl⟩
   rw [hR]
   obtain ⟨s1, d1, q⟩ := R
   dsimp only
   rintro e w7 ⟨rfl, hs7, hk7⟩
   have HR := hHd hR
   have S7 := hHd hs7
   have K7 := hHd (K6.out.trans hk7)
   have Y07 := hHd hs7.cells.1
   have Y17 := hHd hs7.cells.2.1
   clear hR hs7 hk7
   go_wp2_with fail
   refine hK.out _ _ (⟨Y07.out, Y17.out⟩) (fun hHeld2 => ?_)
   clear hK K
   try simp only [Act.put, sIa, sI0, sI1]
   refine rd 15 (h := fun K hK => ?_)
   go_simp
   refine (phear_any S7.out q).mono ?_
   rintro e w8 ⟨rfl, hs8, hk8⟩
   have S8 := hHd hs8
   have K8 := hHd (K7.out.trans (hk8.mono fun k _ e => by rw [show k = gs from e]; exact H.out.fs))
   have Y08 := hHd hs8.cells.1
   have Y18 := hHd hs8.cells.2.1
   clear hs8 hk8
   go_wp2_with fail
   refine hK.out _ _ (⟨Y08.out, Y18.out⟩) (fun hHeld3 => ?_)
   clear hK K
   try simp only [Act.put, sIa, sI0, sI1]
   refine tk 16 (h := ?_)
   refine wpAnyH_done (by kernel_rfl) ?_ _
   clear hHeld
   by_cases he : q = 0
   ·subst he
    have hmm := @run_makeMap Tryz.prog
    obtain ⟨hnl, hkl⟩ := S8.out.newLate (fun k hk => HF.out k (Nat.le_trans K8.out.size hk))
    have NL := hHd hnl
    have KL := hHd hkl
    have bx := (S8.out.still ((Kp.refl (fun _ => False) w8).alloc (.map #[] 0)))
    have y20 := bx.cells.2.2.2.1
    have yf := bx.stb.free 20
    clear hnl hkl bx
    go_wp2_with fail
    go_ret
    rw [(trimS_pw HP.out HR.out).1 rfl]
    exact ⟨rfl, ⟨_, NL.out⟩, K8.out.trans (KL.out.mono fun k _ e => by rw [show k = gs from e]; exact H.out.fs)⟩
   ·have hne : (q != 0) = true := by simpa using he
    have HNE := hHd he
    clear he
    go_wp2_with fail
    go_ret
    rw [(trimS_pw HP.out HR.out).2 HNE.out]
    exact ⟨rfl, ⟨g1, S8.out⟩, K8.out⟩
 ·exact absurd rfl hz
end Go.Proofs.YtepaeliamhjgiaaGreatDoor
namespace Go.Proofs.YtepaeliamhjgiaaGreatDoor
open Go.RowKit
theorem onV_rep {m a : Nat} (h : a < m) : onV (List.replicate m zsec0) a = zsec0 := by
 unfold onV
 simp [List.getD, h]
theorem format_far {d : Dm} (hu : Up d) (hlit : d.lit = false) (n : Nat) (hz0 : ∀ a, a < 2 + n -> onV d.on a = zsec0) (note : List UInt8) (h1 : 96 <= n) (h2 : n <= 512) (h3 : 2 + n <= d.on.length) (h4 : note.length <= 64) :
  (d.formatS n note).2 = 0 /\ Wn (d.formatS n note).1.on [] 1 n note /\ Up (d.formatS n note).1 /\ (d.formatS n note).1.lit = false /\ (d.formatS n note).1.on.length = d.on.length /\ ∀ a, 2 <= a -> onV (d.formatS n note).1.on a = onV d.on a := by
 have hsh : ∀ q, sheetF (onV d.on) n q = none := fun q => by
  rw [sheetF_far (on := List.replicate (2 + n) zsec0) (by omega) (fun a ha => by rw [hz0 a ha, onV_rep ha])]
  exact fresh_sheet _ _ _
 have hz : headS (onV d.on 0) = none := by rw [hz0 0 (by omega)]; exact headS_zero
 have hz1 : headS (onV d.on 1) = none := by rw [hz0 1 (by omega)]; exact headS_zero
 have hheads : d.heads = none := by
  unfold Dm.heads
  rw [Up.now hu.wait, hz, hz1]
  rfl
 have hnext : nextF d.nowAt n 1 = 1 := by
  refine (nextF_is d.nowAt n 1 (by omega)).one ⟨Nat.le_refl _, fun q s hq => ?_, .inl rfl⟩
  rw [Up.now hu.wait, hsh] at hq
  cases hq
 have hmay : mayFormat d n note = true := by
  simp only [mayFormat, Bool.and_eq_true, decide_eq_true_eq]
  omega
 have e : d.formatS n note = d.putHead 1 ⟨1, 1, n, note⟩ := by
  have e1 : ((n : Int)).toNat = n := by omega
  simp [Dm.formatS, hmay, hu.power, e1, hnext, Dm.nextH, hheads]
 rw [e]
 obtain ⟨p1, p2⟩ := putHead_unlit d hu hlit 1 ⟨1, 1, n, note⟩ (by omega) h4
 rcases putHead_out d hu 1 ⟨1, 1, n, note⟩ (by omega) h4 with ⟨_, g2, g3⟩ | ⟨g1, _⟩
 ·obtain ⟨s1, s2⟩ := onV_set d.on 1 (hsec ⟨1, 1, n, note⟩) (by omega)
  have hok : (⟨1, 1, n, note⟩ : Hd).ok := ⟨(show 1 < 18446744073709551616 by decide), (show 1 < 18446744073709551616 by decide), h1, h2, h4⟩
  have hF : ∀ q, sheetF (onV (d.putHead 1 ⟨1, 1, n, note⟩).1.on) n q = none := fun q => by
   have := hsh q
   rw [g2]
   unfold sheetF at this ⊢
   rw [s2 (2 + q % n) (by omega)]
   exact this
  have hc : countS (headS (onV (d.putHead 1 ⟨1, 1, n, note⟩).1.on 0)) (headS (onV (d.putHead 1 ⟨1, 1, n, note⟩).1.on 1)) = some (⟨1, 1, n, note⟩, 1) := by
   rw [g2, s2 0 (by decide), s1, hz, headS_hsec _ hok]
   rfl
  have hl1 : (d.putHead 1 ⟨1, 1, n, note⟩).1.on.length = d.on.length := by rw [g2, List.length_set]
  have ht : textsF (onV (d.putHead 1 ⟨1, 1, n, note⟩).1.on) n 1 = [] := by
   unfold textsF
   rw [runF_of _ [] (n + 1) 1 (by simp) (fun i s hi => by simp at hi) (hF _)]
   rfl
  refine ⟨p1, ⟨⟨⟨⟨1, 1, n, note⟩, 1, by rw [hl1]; exact h3, hok, hc, Nat.le_refl _, Nat.le_refl _, (fun q s hq => by have := hF q; rw [this] at hq; cases hq), ht⟩⟩, ⟨_, _, hc, rfl, rfl⟩⟩, g3, p2, hl1, fun a ha => ?_⟩
  rw [g2]
  exact s2 a (by omega)
 ·rw [p1] at g1
  cases g1
def blankC : Nat -> List UInt8 := fun i => if i = 0 then Bt.pageL usedO else zsec
theorem putBs_one (o n : Nat) (m : Bm) (d : Dm) : Dm.putBs o n [m] d = Dm.putPg o m (m.keys n) d := by
 show (if (Dm.putPg o m (m.keys n) d).2 = 0 then ((Dm.putPg o m (m.keys n) d).1, (0 : Int)) else ((Dm.putPg o m (m.keys n) d).1, (Dm.putPg o m (m.keys n) d).2)) = _
 split
 ·next e => rw [<- e]
 ·rfl
theorem formP_out {d : Dm} (hu : Up d) (hlit : d.lit = false) (L n m : Nat) (hon : d.on = List.replicate m zsec0) (note : List UInt8) (h1 : 96 <= L) (h2 : L <= 512) (h3 : 2 + L + n <= m) (h4 : note.length <= 62) :
  (d.formP L n note).2 = 0 /\ Up (d.formP L n note).1 /\ (d.formP L n note).1.lit = false /\ (d.formP L n note).1.on.length = m /\ Rc (d.formP L n note).1.on L n (hnote n note) blankC 1 := by
 have hlen : d.on.length = m := by rw [hon]; simp
 have hb1 : ∀ b ∈ [blankB n], b.Ok n := fun b hm => by
  obtain rfl : b = blankB n := by simpa using hm
  exact blankB_ok n
 have hnl : (hnote n note).length <= 64 := by
  unfold hnote
  rw [List.length_append, beN_length]
  omega
 have hf := fl_out (o := 2 + L) hb1 hu (by omega)
 rw [putBs_one, one_over] at hf
 unfold Dm.formP
 show (if (Dm.thenFlush (d.layP L n)).2 = 0 then (Dm.thenFlush (d.layP L n)).1.formatS L (hnote n note) else Dm.thenFlush (d.layP L n)).2 = 0 /\ Up (if (Dm.thenFlush (d.layP L n)).2 = 0 then (Dm.thenFlush (d.layP L n)).1.formatS L (hnote n note) else Dm.thenFlush (d.layP L n)).1 /\ _
 have hf2 : Dm.thenFlush (Dm.putPg (2 + L) (blankB n) ((blankB n).keys n) d) = Dm.thenFlush (d.layP L n) := rfl
 rw [hf2] at hf
 generalize Dm.thenFlush (d.layP L n) = r at hf ⊢
 obtain ⟨d2, e2⟩ := r
 dsimp only at hf ⊢
 rcases hf with ⟨rfl, f2, f3, f4, f5, f6⟩ | ⟨_, hl, _⟩
 ·rw [if_pos rfl]
  obtain ⟨q1, q2, q3, q4, q5, q6⟩ := format_far f2 (f6 hlit) L (fun a ha => by rw [f4 a ha, hon, onV_rep (by omega)]) (hnote n note) h1 h2 (by omega) hnl
  refine ⟨q1, q3, q4, by omega, ⟨⟨[], (fun m hm => by simp at hm), q2, fun i hi => ?_⟩, by omega⟩⟩
  show onV (d2.formatS L (hnote n note)).1.on (2 + L + i) = blankC i
  rw [q6 _ (by omega), f5 i hi]
  unfold blankB blankC
  rw [if_pos hi]
  rfl
 ·rw [hlit] at hl
  cases hl
end Go.Proofs.YtepaeliamhjgiaaGreatDoor
namespace Go.Proofs.YtepaeliamhjgiaaGreatDoor
open Go.RowKit Go.Maps Go.Shelf
def LaidB (m c m' : Bm) (left : Lit -> Bool) : Prop := ∀ k : Nat, m' k = if left (.int .i64 (k : Int)) = true then m k else (c k).or (m k)
theorem LaidB.start {D : DataW (List UInt8)} {m c : Bm} (hD : SaysB D c) : LaidB m c m (has D) := fun k => by
 split
 ·rfl
 ·next h =>
  rw [hD.1 (k : Int)] at h
  have e : ((k : Int)).toNat = k := by omega
  rw [e] at h
  cases hc : c k with
  |none => rfl
  |some p => rw [hc] at h; exact absurd (by simp) h
theorem LaidB.done {m c m' : Bm} {left : Lit -> Bool} (h : LaidB m c m' left) (h0 : ∀ k, left k = false) : m' = m.over c := by
 funext k
 rw [h k, h0]
 rfl
theorem LaidB.step {D : DataW (List UInt8)} {m c m' : Bm} {left : Lit -> Bool} (h : LaidB m c m' left) (hD : SaysB D c) {x : Int} {l : List UInt8} (hl : left (.int .i64 x) = true) (hat : ∀ zd, D.atKey (.int .i64 x) zd = .held l) :
  ∃ i : Nat, x = (i : Int) /\ c i = some l /\ LaidB m c (m'.put i l) (fun z => left z && !z.sameKey (.int .i64 x)) := by
 have hh := has_true_of_atKey (D := D) (k := .int .i64 x) (y := .held l) hat
 rw [hD.1 x, Bool.and_eq_true, decide_eq_true_eq] at hh
 obtain ⟨h0, h1⟩ := hh
 obtain ⟨i, rfl⟩ : ∃ i : Nat, x = (i : Int) := ⟨x.toNat, by omega⟩
 have e : ((i : Int)).toNat = i := by omega
 rw [e] at h1
 obtain ⟨p, hp⟩ := Option.isSome_iff_exists.1 h1
 have h2 := hD.2 i p hp (.held [])
 rw [hat] at h2
 injection h2 with h2
 subst h2
 refine ⟨i, rfl, hp, fun k => ?_⟩
 show (if k = i then some l else m' k) = if (left (.int .i64 (k : Int)) && !(Lit.int .i64 (k : Int)).sameKey (.int .i64 (i : Int))) = true then m k else (c k).or (m k)
 by_cases hk : k = i
 ·subst hk
  rw [if_pos rfl, WideAt.sameKey_self (show WideAt.IsKeyLit (.int .i64 (k : Int)) from trivial), hp]
  simp
 ·rw [if_neg hk, h k]
  have hne : (Lit.int .i64 (k : Int)) ≠ .int .i64 (i : Int) := by
   intro h
   injection h with _ h
   omega
  rw [sameKey_ne hne]
  simp
theorem Kp.grownBy {g : Nat} {w w' : World} (hk : Kp (fun k => k = g) w w') : w.grownBy w' (some g) := ⟨hk.os, hk.tape, hk.output, hk.size, fun k hk' hs => hk.block k hk' (by simpa using hs)⟩
theorem mcopy_any {w : World} {g1 g2 n : Nat} {m c : Bm} (hm : Pgm w g1 n m) (hc : Pgm w g2 n c) (hne : g1 ≠ g2) :
  Calls Tryz.prog 128 #[.map (some g1), .map (some g2)] w fun e w' => e = .returned (.tuple #[]) /\ Pgm w' g1 n (m.over c) /\ Kp (fun k => k = g1) w w' := by
 have hok := hc.1
 obtain ⟨_, hn, c2, D, ho, hD⟩ := hc
 have l1 := hHd hm.lt
 have l2 := hHd ho.lt
 have HM := hHd hm
 have HO := hHd ho
 have HD := hHd hD
 have HOK := hHd hok
 have HN := hHd hn
 have HNE := hHd hne
 clear hm ho hD hok hn hne
 go_enter Tryz.func128, Tryz.ntmps128
 go_wp2_with (first | (at_range; refine wpList_range_own _ rfl _ 78 rfl 3 107 keyedI Tryz.underlying78 rdPg g2 c2 D rfl HO.out ?_; intro w0 hrg0 hg0 hs0) | fail)
 go_frame
 have K0 := hHd ((Kp.refl (fun _ => False) w).grown hg0 (fun k e => by cases e))
 have HR0 := hHd hrg0
 clear hrg0 hg0 hs0
 go_loopw [4] (fun _ wr => ∃ (left : Lit -> Bool) (cnt : Nat) (m' : Bm), wr.ranges Tryz.prog 3 rdPg g2 w.heap.size c2 D left cnt /\ Pgm wr g1 n m' /\ LaidB m c m' left /\ Kp (fun k => k = g1) w wr)
  (fun _ wr => wr.rangeLeft g2 w.heap.size)
 case atStart => exact ⟨_, _, m, HR0.out, HM.out.still K0.out, LaidB.start HD.out, K0.out.of_false⟩
 case round =>
  obtain ⟨left, cnt, m', hrg, hpm, hla, hkw⟩ := hrel
  have HRG := hHd hrg
  have HPM := hHd hpm
  have HLA := hHd hla
  have HKW := hHd hkw
  clear hrg hpm hla hkw
  go_wp2_with (first | (at_next; refine wpList_next_ranges _ rfl _ rfl 3 keyedI rdPg (Value.int .i64) (fun l : List UInt8 => Value.agg (bcs l).toArray) (fun key kl hk => by obtain ⟨x, e, _⟩ := Maps.keyOf_int_inv Tryz.underlying3 hk; exact ⟨x, e⟩) (fun v y hv => by obtain ⟨s, _, e, _⟩ := rdPg_inv hv; exact ⟨s, e⟩) g2 w.heap.size c2 D _ _ rfl HRG.out ?_ ?_) | fail)
  ·intro hc0 hl0
   have HL0 := hHd hl0
   clear hc0 hl0
   go_wp2_with fail
   refine bodyPost_end (v := .tuple #[]) (by kernel_rfl) rfl ?_
   exact ⟨rfl, by rw [<- HLA.out.done HL0.out]; exact HPM.out, HKW.out⟩
  ·intro x l kl yd yp w1 cnt1 hkey hlx hrd hat hrg1 hlt hg1 hs1 hen
   obtain ⟨x', e, rfl, hwx⟩ := Maps.keyOf_int_inv Tryz.underlying3 hkey
   cases e
   obtain ⟨l', hl', e1, e3⟩ := rdPg_inv hrd
   injection e3 with e3 e4
   subst e3 e4
   have e2 : l' = l := by
    injection e1 with e1
    have e1 := congrArg Array.toList e1
    have := congrArg (List.map toB) e1
    rw [List.toList_toArray, List.toList_toArray, toB_bcs, toB_bcs] at this
    exact this.symm
   subst e2
   obtain ⟨i, rfl, hci, hst⟩ := HLA.out.step HD.out hlx hat
   have HI := hHd (HOK.out.in_ i l' hci)
   have HL := hHd hl'
   have HST := hHd hst
   have k1 : Kp (fun k => w.heap.size <= k) wr w1 := (Kp.refl _ wr).grown hg1 (fun k e => by cases e; exact .inr (Nat.le_refl _))
   have P1 := hHd (HPM.out.kp k1 (fun e => by have := l1.out; omega))
   have HR1 := hHd hrg1
   have HLT := hHd hlt
   have K1 := hHd (HKW.out.trans_new k1 (fun k e => .inl e))
   clear hkey hlx hrd hat hrg1 hlt hg1 hs1 hci hst hl' k1 hwx e1
   go_upto_region 3 with (first | (refine wpList_store_box rfl 107 (.tmp 5) (.tmp 12) rfl w1.heap.size (bcs l') rfl rfl (Box.new w1 107 Tryz.zeroCells107) (by rw [bcs_length, HL.out]; kernel_rfl) (by rw [bcs_length, HL.out]; exact infoPg) (bcs_one l') ?_; intro w3 hb3 hk3) | fail)
   have k3 : Kp (fun _ => False) w1 w3 := ((Kp.refl (fun _ => False) w1).alloc (.cells Tryz.zeroCells107 107)).trans_new hk3 (fun q e => .inl (by omega))
   obtain ⟨gx, hgx⟩ : ∃ gx, w1.heap.size = gx := ⟨_, rfl⟩
   rw [hgx] at hb3
   try rw [hgx]
   have P3 := hHd (P1.out.still k3)
   have HR3 := hHd (HR1.out.kept (row := none) ⟨k3.os, k3.tape, k3.output, k3.size, fun k hk _ => k3.block k hk (fun e => e)⟩ (fun e => by cases e) (fun e => by cases e))
   have K3 := hHd (K1.out.trans k3.of_false)
   have B3 := hHd hb3
   clear k3 hk3 hb3 hgx
   try simp only [Act.put]
   go_wp2_with (first | (refine wpList_load_mid rfl 107 (.tmp 5) rfl gx 0 rfl (bcs l') _ (Box.range' B3.out) Tryz.underlying107 rfl (by rw [bcs_length, HL.out]; exact infoPg) ?_) | (refine wpList_putPg rfl (.tmp 13) (.tmp 14) (.tmp 15) rfl rfl P3.out i HI.out l' HL.out rfl rfl ?_; intro w2 hm2 hk2; go_frame) | fail)
   have HR2 := hHd (HR3.out.kept hk2.grownBy (fun e => HNE.out (Option.some.inj e).symm) (fun e => by have := Option.some.inj e; have := l1.out; omega))
   have M2 := hHd hm2
   have K2 := hHd (K3.out.trans hk2)
   clear hm2 hk2
   go_roundw
   case rel => exact ⟨_, cnt1, _, HR2.out, M2.out, HST.out, K2.out⟩
   case measure => rw [HR2.out.left_eq, HRG.out.left_eq]; exact HLT.out
theorem Sto.setLateM {F : Nat -> Prop} {w w' : World} {gs gl b g1 g2 : Nat} {s : Sm} {d : Dm} {m : Bm} (h : Sto F w gs gl b g1 g2 s d) (hk : Kp (fun k => k = g1) w w') (hm : Pgm w' g1 s.n m) : Sto F w' gs gl b g1 g2 { s with late := m } d :=
 ⟨h.fs, h.fl, h.f1, h.f2, h.ne, h.box.kp hk (fun e => h.g1ne.1 e.symm), h.lg.kp hk (fun e => h.late.not_cells (by have := h.lg; have e : gl = g1 := e; rw [e] at this; exact this)), hm, h.chg.kp hk (fun e => h.ne e.symm), h.dk.kp hk (fun k e e2 => e.2.1 e2), h.u, h.cu⟩
theorem pdone_any {F : Nat -> Prop} {w : World} {gs gl b g1 g2 : Nat} {s : Sm} {d : Dm} (h : Sto F w gs gl b g1 g2 s d) (hF : ∀ k, w.heap.size <= k -> F k) :
  Calls Tryz.prog 76 #[.pointer (some ⟨gs, 0, none⟩)] w fun e w' => e = .returned (.tuple #[]) /\ ∃ g2', Sto F w' gs gl b g1 g2' s.doneS d /\ Kp F w w' := by
 have H := hHd h
 have HF := hHd hF
 have hh := h.still ((Kp.refl (fun _ => False) w).drew)
 have H1 := hHd hh
 have Y1 := hHd hh.cells.2.2.2.1
 have Y2 := hHd hh.cells.2.2.2.2.1
 clear h hF hh
 go_enter Tryz.func76, Tryz.ntmps76
 go_upto_region 0 with fail
 refine wp_region_held_drew (S := fun v => v.cell? ⟨gs, 20, none⟩ = some (.map (some g1)) /\ v.cell? ⟨gs, 21, none⟩ = some (.map (some g2))) (by kernel_rfl) (⟨Y1.out, Y2.out⟩) (fun hHeld => ?_)
 refine tk 0 (h := ?_)
 refine tk 1 (h := ?_)
 refine tk 2 (h := ?_)
 refine tk 3 (v := ?_) (hy := ?_) (h := ?_)
 rotate_left
 ·intro v hSw
  have y := hSw.1
  go_simp
  with_reducible rfl
 refine tk 4 (h := ?_)
 refine tk 5 (h := ?_)
 refine tk 6 (h := ?_)
 refine tk 7 (h := ?_)
 refine tk 8 (v := ?_) (hy := ?_) (h := ?_)
 rotate_left
 ·intro v hSw
  have y := hSw.2
  go_simp
  with_reducible rfl
 refine rd 9 (h := fun K hK => ?_)
 go_simp
 refine (mcopy_any H1.out.late H1.out.chg H.out.ne).mono ?_
 rintro e w2 ⟨rfl, hm2, hk2⟩
 have S2 := hHd (H1.out.setLateM hk2 hm2)
 have K2 := hHd (((Kp.refl (fun k => k = g1) w).drew).trans hk2)
 have Y12 := hHd S2.out.cells.2.2.2.1
 have Y22 := hHd S2.out.cells.2.2.2.2.1
 clear hm2 hk2
 go_wp2_with fail
 refine hK.out _ _ (⟨Y12.out, Y22.out⟩) (fun hHeld1 => ?_)
 clear hK K
 try simp only [Act.put, sIa, sI0, sI1]
 refine wpAnyH_done (by kernel_rfl) ?_ _
 have hst := S2.out.stb
 have hbx := hst.2.2
 rw [stc_um] at hbx
 have HBX := hHd hbx
 have HST := hHd hst
 have HU := hHd S2.out.cused
 clear hbx hst
 go_upto_region 2 with (first | (refine wpList_load_mid rfl 82 (.tmp 16) rfl gs 22 rfl (Bt.mcs s.cused s.n) _ HU.out Tryz.underlying82 rfl (Bt.infoMca _ _) ?_) | (refine wpList_store_part rfl 82 (.tmp 19) (.tmp 17) rfl gs (sth gl b s.note) (Bt.mcs s.used s.n) (Bt.mcs s.cused s.n) ([.map (some g1), .map (some g2)] ++ Bt.mcs s.cused s.n ++ [Value.bool s.dead]) rfl rfl HBX.out (by rw [Bt.mcs_length, Bt.mcs_length]) (Bt.infoMcs _ _) (Bt.mcs_one _ _) ?_; intro w3 hb3 hk3) | fail)
 have S3 := hHd (S2.out.turn hk3 { s with late := s.late.over s.chg, used := s.cused } rfl rfl rfl rfl S2.out.cu S2.out.cu (HST.out.newUm (Bt.mcs_length _ _) hb3))
 have K3 := hHd ((K2.out.mono (S' := F) fun k _ e => by rw [show k = g1 from e]; exact H.out.f1).trans (hk3.mono fun k _ e => by rw [show k = gs from e]; exact H.out.fs))
 clear hb3 hk3
 go_wp2_with fail
 refine (pabort_sto S3.out (fun k hk => HF.out k (Nat.le_trans K3.out.size hk))).mono ?_
 rintro e w4 ⟨rfl, g3, _, hs4, hk4⟩
 have S4 := hHd hs4
 have K4 := hHd (K3.out.trans (hk4.mono fun k _ e => by rw [show k = gs from e]; exact H.out.fs))
 clear hs4 hk4
 go_wp2_with fail
 refine bodyPost_end (v := .tuple #[]) (by kernel_rfl) rfl ?_
 exact ⟨rfl, g3, S4.out, K4.out⟩
theorem pcom1_any {F : Nat -> Prop} {w : World} {gs gl b g1 g2 gp gt : Nat} {s : Sm} {d : Dm} {t : List UInt8} (h : Sto F w gs gl b g1 g2 s d) (hF : ∀ k, w.heap.size <= k -> F k) (hFT : ¬ F 1) (tb : Tbl w) (lok : s.l.ok) (htx : t.length <= 1000000) (hw : d.wait.length + 10000 < 1073741824)
  (hp : Box w gp 31 #[.pointer (some ⟨gs, 0, none⟩)]) (ht : Box w gt 9 #[.string ⟨t.toArray⟩]) :
  Calls Tryz.prog 73 #[.pointer (some ⟨gp, 0, none⟩), .pointer (some ⟨gt, 0, none⟩)] w fun e w' => e = .returned (.int .i64 (s.l.commitS d t).2.2) /\ Sto F w' gs gl b g1 g2 { s with l := (s.l.commitS d t).1 } (s.l.commitS d t).2.1 /\ Kp (fun k => ((F k /\ k ≠ g1 /\ k ≠ g2) /\ DT w k) \/ k = gl) w w' := by
 have kd : Kp (fun _ => False) w w.drew := (Kp.refl _ w).drew
 have hs := h.still kd
 have l1 := h.late.lt
 have l2 := h.chg.lt
 have hcm := commit_any (F := fun k => (F k /\ k ≠ g1 /\ k ≠ g2) /\ DT w.drew k) (w := w.drew) (fun k hk => ⟨⟨hF k hk, by have : w.heap.size <= k := hk; omega, by have : w.heap.size <= k := hk; omega⟩, .inl hk⟩) (fun e => hFT e.1.1.1) hs.dk.bothG (tb.kp kd (fun e => e)) hs.lg lok t htx hw
 generalize hR : s.l.commitS d t = R at hcm ⊢
 obtain ⟨l1', d1, q1⟩ := R
 dsimp only at hcm ⊢
 have HCM := hHd hcm
 have SD := hHd hs
 have CP := hHd (show w.drew.cell? ⟨gp, 0, none⟩ = some (.pointer (some ⟨gs, 0, none⟩)) from hp.cell 0)
 have CT := hHd (show w.drew.cell? ⟨gt, 0, none⟩ = some (.string ⟨t.toArray⟩) from ht.cell 0)
 have CS := hHd hs.cells.1
 have NP := hHd (show ¬ (((F gp /\ gp ≠ g1 /\ gp ≠ g2) /\ DT w.drew gp) \/ gp = gl) from fun e => e.elim (fun e => not_DT (hp.kp kd fun e => e) ⟨by decide, by decide, by decide⟩ e.2) (hp.type_ne h.lg (by decide)))
 have NT := hHd (show ¬ (((F gt /\ gt ≠ g1 /\ gt ≠ g2) /\ DT w.drew gt) \/ gt = gl) from fun e => e.elim (fun e => not_DT (ht.kp kd fun e => e) ⟨by decide, by decide, by decide⟩ e.2) (ht.type_ne h.lg (by decide)))
 clear h hF hFT tb lok htx hw hp ht kd hs l1 l2 hcm hR
 go_enter Tryz.func73, Tryz.ntmps73
 go_upto_region 1 with fail
 refine wp_region_held_drew (S := fun v => v.cell? ⟨gp, 0, none⟩ = some (.pointer (some ⟨gs, 0, none⟩)) /\ v.cell? ⟨gt, 0, none⟩ = some (.string ⟨t.toArray⟩) /\ v.cell? ⟨gs, 0, none⟩ = some (.pointer (some ⟨gl, 0, none⟩))) (by kernel_rfl) (⟨CP.out, CT.out, CS.out⟩) (fun hHeld => ?_)
 refine tk 0 (v := ?_) (hy := ?_) (h := ?_)
 rotate_left
 ·intro v hSw
  have y := hSw.1
  go_simp
  with_reducible rfl
 refine tk 1 (h := ?_)
 refine tk 2 (h := ?_)
 refine tk 3 (v := ?_) (hy := ?_) (h := ?_)
 rotate_left
 ·intro v hSw
  have y := hSw.2.2
  go_simp
  with_reducible rfl
 refine tk 4 (v := ?_) (hy := ?_) (h := ?_)
 rotate_left
 ·intro v hSw
  have y := hSw.2.1
  go_simp
  with_reducible rfl
 refine rd 5 (h := fun K hK => ?_)
 go_simp
 refine HCM.out.mono ?_
 rintro e w2 ⟨rfl, hd2, hb2, hk2⟩
 have S2 := hHd (SD.out.turnL hk2 hd2 hb2)
 have K2 := hHd (((Kp.refl (fun k => ((F k /\ k ≠ g1 /\ k ≠ g2) /\ DT w.drew k) \/ k = gl) w).drew).trans hk2)
 have CP2 := hHd (show w2.cell? ⟨gp, 0, none⟩ = some (.pointer (some ⟨gs, 0, none⟩)) from (hk2.cell (p := ⟨gp, 0, none⟩) (World.block_lt_of_cell? _ _ CP.out) NP.out).trans CP.out)
 have CT2 := hHd (show w2.cell? ⟨gt, 0, none⟩ = some (.string ⟨t.toArray⟩) from (hk2.cell (p := ⟨gt, 0, none⟩) (World.block_lt_of_cell? _ _ CT.out) NT.out).trans CT.out)
 have CS2 := hHd S2.out.cells.1
 clear hd2 hb2 hk2
 go_wp2_with fail
 refine hK.out _ _ (⟨CP2.out, CT2.out, CS2.out⟩) (fun hHeld2 => ?_)
 clear hK K
 try simp only [Act.put, sIa, sI0, sI1]
 refine tk 6 (h := ?_)
 refine wpAnyH_done (by kernel_rfl) ?_ _
 clear hHeld
 go_wp2_with fail
 go_ret
 exact ⟨rfl, S2.out, K2.out⟩
end Go.Proofs.YtepaeliamhjgiaaGreatDoor
