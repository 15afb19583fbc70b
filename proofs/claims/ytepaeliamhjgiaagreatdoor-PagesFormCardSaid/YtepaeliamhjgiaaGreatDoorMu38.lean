/- The law of pages, part 38 of 55: PgCom PgRMap PgRDef. -/
import Derived.Test.YtepaeliamhjgiaaGreatDoorMu1
import Derived.Test.YtepaeliamhjgiaaGreatDoorMu37
import Derived.Test.YtepaeliamhjgiaaGreatDoorMu28
import Derived.Test.YtepaeliamhjgiaaGreatDoorMu15
import Derived.Test.YtepaeliamhjgiaaGreatDoorMu7
import Derived.Test.YtepaeliamhjgiaaGreatDoorMu24
set_option maxHeartbeats 16000000
set_option maxRecDepth 100000
namespace Go.Proofs.YtepaeliamhjgiaaGreatDoor
open Go.RowKit Go.Maps Go.Shelf
theorem hear_not (s : Sm) {c : Int} (h : c ≠ 4) : ({ s with dead := s.dead || c == 4 } : Sm) = s := by
 have : (c == 4) = false := by simpa using h
 rw [this, Bool.or_false]
theorem endS_six (s : Sm) (d : Dm) : s.endS d 6 = (s.abortS, d, 6) := rfl
theorem endS_zero (s : Sm) (d : Dm) : s.endS d 0 = (s.doneS, d, 0) := rfl
theorem endS_else {q : Int} (s : Sm) (d : Dm) (h6 : q ≠ 6) (h0 : q ≠ 0) : s.endS d q = ({ s with dead := s.dead || q == 4 }, d, q) := by
 unfold Sm.endS
 rw [if_neg h6, if_neg h0]
theorem pw_same {s : Sm} {d : Dm} (hp : s.pw d = true) : ({ s with dead := !true } : Sm) = s := by
 obtain ⟨hd, _⟩ := pw_alive hp
 obtain ⟨l, n, note, used, late, chg, cused, dead⟩ := s
 dsimp only at hd
 subst hd
 rfl
theorem text_le {m : Bm} {n : Nat} (hm : m.Ok n) (hn : n <= 1024) : (m.text n).length <= 1000000 := by
 unfold Bm.text
 have := keys_le m n
 rw [pgTx_length fun j hj => (keys_long hm hj).2]
 omega
def Sm.roomS (s : Sm) (d : Dm) (t : List UInt8) : Sm × Dm × Int :=
 if (s.trimS d).2.2 = 0 then ({ (s.trimS d).1 with l := ((s.trimS d).1.l.commitS (s.trimS d).2.1 t).1 }, ((s.trimS d).1.l.commitS (s.trimS d).2.1 t).2.1, ((s.trimS d).1.l.commitS (s.trimS d).2.1 t).2.2) else s.trimS d
theorem commitS_room {s : Sm} {d : Dm} (hp : s.pw d = true) (hk : s.chg.keys s.n ≠ []) (h5 : (s.l.commitS d (s.chg.text s.n)).2.2 = 5) :
  s.commitS d = (({ s with l := (s.l.commitS d (s.chg.text s.n)).1 } : Sm).roomS (s.l.commitS d (s.chg.text s.n)).2.1 (s.chg.text s.n)).1.endS (({ s with l := (s.l.commitS d (s.chg.text s.n)).1 } : Sm).roomS (s.l.commitS d (s.chg.text s.n)).2.1 (s.chg.text s.n)).2.1 (({ s with l := (s.l.commitS d (s.chg.text s.n)).1 } : Sm).roomS (s.l.commitS d (s.chg.text s.n)).2.1 (s.chg.text s.n)).2.2 := by
 obtain ⟨hd, hpw⟩ := pw_alive hp
 have hc : ¬ ((s.dead || !d.power) = true) := by rw [hd, hpw]; decide
 unfold Sm.commitS Sm.roomS
 rw [if_neg hc, if_neg hk]
 generalize s.l.commitS d (s.chg.text s.n) = R at h5 ⊢
 obtain ⟨l1, d1, e1⟩ := R
 dsimp only at h5 ⊢
 rw [if_pos h5]
 generalize ({ s with l := l1 } : Sm).trimS d1 = U
 obtain ⟨s2, d2, e2⟩ := U
 try dsimp only
 by_cases h0 : e2 = 0
 ·rw [if_pos h0, if_pos h0]
 ·rw [if_neg h0, if_neg h0]
theorem commitS_else {s : Sm} {d : Dm} (hp : s.pw d = true) (hk : s.chg.keys s.n ≠ []) (h5 : (s.l.commitS d (s.chg.text s.n)).2.2 ≠ 5) :
  s.commitS d = ({ s with l := (s.l.commitS d (s.chg.text s.n)).1 } : Sm).endS (s.l.commitS d (s.chg.text s.n)).2.1 (s.l.commitS d (s.chg.text s.n)).2.2 := by
 obtain ⟨hd, hpw⟩ := pw_alive hp
 have hc : ¬ ((s.dead || !d.power) = true) := by rw [hd, hpw]; decide
 unfold Sm.commitS
 rw [if_neg hc, if_neg hk]
 generalize s.l.commitS d (s.chg.text s.n) = R at h5 ⊢
 obtain ⟨l1, d1, e1⟩ := R
 dsimp only at h5 ⊢
 rw [if_neg h5]
theorem Sto.shrink {F F' : Nat -> Prop} {w w' : World} {gs gl b g1 g2 : Nat} {s : Sm} {d : Dm} (h : Sto F w gs gl b g1 g2 s d) (hk : Kp (fun _ => False) w w') (hF : ∀ k, k < w.heap.size -> F k -> F' k) : Sto F' w' gs gl b g1 g2 s d := by
 have h' := h.still hk
 obtain ⟨F1, hd1, hf1⟩ := h.dk.fit
 exact ⟨hF _ h.box.lt h.fs, hF _ h.lg.lt h.fl, hF _ h.late.lt h.f1, hF _ h.chg.lt h.f2, h.ne, h'.box, h'.lg, h'.late, h'.chg, (hd1.still hk).mono fun k e => by
  obtain ⟨⟨e1, e2, e3⟩, e4⟩ := hf1 k e
  exact ⟨hF k e4 e1, e2, e3⟩, h.u, h.cu⟩
section
variable {F : Nat -> Prop} {w : World} {gs gl b g1 g2 gst gp gt : Nat} {s : Sm} {d : Dm} {t : List UInt8}
theorem room_order (h : Sto F w gs gl b g1 g2 s d) (hF : ∀ k, w.heap.size <= k -> F k) (hFT : ¬ F 1) (tb : Tbl w) (lok : s.l.ok) (hw : d.wait.length + 4000 < 1073741824) (hl2 : (s.trimS d).2.2 = 0 -> (s.trimS d).1.l.ok /\ (s.trimS d).2.1.wait.length + 10000 < 1073741824) (htx : t.length <= 1000000)
  (hp : Box w gp 31 #[.pointer (some ⟨gs, 0, none⟩)]) (ht : Box w gt 9 #[.string ⟨t.toArray⟩]) (fp : ¬ F gp) (ft : ¬ F gt) (fst : ¬ F gst) (hr : Box w gst 104 (([(Stp.mk 75 #[.pointer (some ⟨gs, 0, none⟩)] #[]), (Stp.mk 73 #[] #[.pointer (some ⟨gp, 0, none⟩), .pointer (some ⟨gt, 0, none⟩)])] : List Stp).map Stp.v).toArray) (c : Nat) :
  Calls Tryz.prog 42 #[.slice (some ⟨gst, 0, none⟩) 2 c] w fun e V => e = .returned (.int .i64 (s.roomS d t).2.2) /\ (∃ g1', Sto F V gs gl b g1' g2 (s.roomS d t).1 (s.roomS d t).2.1) /\ Kp F w V := by
 have hn5 : s.l.h.n <= 512 := lok.h_.hi
 have hord := order_any [(Stp.mk 75 #[.pointer (some ⟨gs, 0, none⟩)] #[]), (Stp.mk 73 #[] #[.pointer (some ⟨gp, 0, none⟩), .pointer (some ⟨gt, 0, none⟩)])] gst c w
  (fun i V => Tbl V /\ Kp F w V /\ match i with
   |0 => Sto F V gs gl b g1 g2 s d
   |1 => (∃ g1', Sto F V gs gl b g1' g2 (s.trimS d).1 (s.trimS d).2.1) /\ (s.trimS d).2.2 = 0
   |_ + 2 => (∃ g1', Sto F V gs gl b g1' g2 (s.roomS d t).1 (s.roomS d t).2.1) /\ (s.roomS d t).2.2 = 0)
  (fun q V => (∃ g1', Sto F V gs gl b g1' g2 (s.roomS d t).1 (s.roomS d t).2.1) /\ (s.roomS d t).2.2 = q /\ Kp F w V)
  (fun i V hi j st hj => by
   rw [(hr.kp hi.2.1 fst).cell, List.getElem?_toArray, List.getElem?_map, hj]
   rfl)
  ⟨tb, Kp.refl _ w, h⟩
  (fun st hst => by
   simp only [List.mem_cons, List.not_mem_nil, or_false] at hst
   rcases hst with rfl | rfl
   ·exact enters_of Tryz.func75 (by kernel_rfl) rfl
   ·exact enters_of Tryz.func73 (by kernel_rfl) rfl)
  (show ((2 : Nat) : Int) <= 100 by decide)
  (fun i st V hi hI => by
   obtain ⟨tbl, kp, hI⟩ := hI
   have hFV : ∀ k, V.heap.size <= k -> F k := fun k hk => hF k (Nat.le_trans kp.size hk)
   match i, hi with
   |0, hi =>
    injection hi with hi
    subst hi
    have hI : Sto F V gs gl b g1 g2 s d := hI
    refine (ptrim_any hI hFV hFT tbl (by omega) lok hw).mono ?_
    rintro e V' ⟨rfl, hs, hk⟩
    refine ⟨_, rfl, ?_⟩
    by_cases hz : (s.trimS d).2.2 = 0
    ·exact .inl ⟨hz, tbl.kp hk hFT, kp.trans hk, hs, hz⟩
    ·have er : s.roomS d t = s.trimS d := by unfold Sm.roomS; rw [if_neg hz]
     exact .inr ⟨hz, by rw [er]; exact hs, by rw [er], kp.trans hk⟩
   |1, hi =>
    injection hi with hi
    subst hi
    obtain ⟨⟨g1', hs0⟩, e0⟩ : (∃ g1', Sto F V gs gl b g1' g2 (s.trimS d).1 (s.trimS d).2.1) /\ (s.trimS d).2.2 = 0 := hI
    obtain ⟨o1, o2⟩ := hl2 e0
    refine (pcom1_any hs0 hFV hFT tbl o1 htx o2 (hp.kp kp fp) (ht.kp kp ft)).mono ?_
    rintro e V' ⟨rfl, hs, hk⟩
    refine ⟨_, rfl, ?_⟩
    have er : s.roomS d t = ({ (s.trimS d).1 with l := ((s.trimS d).1.l.commitS (s.trimS d).2.1 t).1 }, ((s.trimS d).1.l.commitS (s.trimS d).2.1 t).2.1, ((s.trimS d).1.l.commitS (s.trimS d).2.1 t).2.2) := by unfold Sm.roomS; rw [if_pos e0]
    have hkF : Kp F V V' := hk.mono fun k _ e => e.elim (fun e => e.1.1) (fun e => by rw [e]; exact hs0.fl)
    by_cases hz : ((s.trimS d).1.l.commitS (s.trimS d).2.1 t).2.2 = 0
    ·refine .inl ⟨hz, tbl.kp hkF hFT, kp.trans hkF, ?_⟩
     show (∃ g1', Sto F V' gs gl b g1' g2 (s.roomS d t).1 (s.roomS d t).2.1) /\ (s.roomS d t).2.2 = 0
     rw [er]
     exact ⟨⟨g1', hs⟩, hz⟩
    ·refine .inr ⟨hz, ?_, ?_, kp.trans hkF⟩
     ·rw [er]; exact ⟨g1', hs⟩
     ·rw [er]
   |i + 2, hi => simp at hi)
 refine hord.mono ?_
 rintro e V (⟨rfl, _, hk, hs, hz⟩ | ⟨q, _, rfl, hs, hz, hk⟩)
 ·exact ⟨by rw [hz], hs, hk⟩
 ·exact ⟨by rw [hz], hs, hk⟩
theorem pcommit_any (h : Sto F w gs gl b g1 g2 s d) (hF : ∀ k, w.heap.size <= k -> F k) (hFT : ¬ F 1) (tb : Tbl w) (lok : s.l.ok) (hw : d.wait.length + 10000 < 1073741824)
  (hl2 : s.chg.keys s.n ≠ [] -> (s.l.commitS d (s.chg.text s.n)).2.2 = 5 -> (s.l.commitS d (s.chg.text s.n)) = (s.l, d, 5) /\ ((s.trimS d).2.2 = 0 -> (s.trimS d).1.l.ok /\ (s.trimS d).2.1.wait.length + 10000 < 1073741824)) :
  Calls Tryz.prog 24 #[.pointer (some ⟨gs, 0, none⟩)] w fun e w' => e = .returned (.int .i64 (s.commitS d).2.2) /\ (∃ g1' g2', Sto F w' gs gl b g1' g2' (s.commitS d).1 (s.commitS d).2.1) /\ Kp F w w' := by
 have H := hHd h
 have HF := hHd hF
 have HFT := hHd hFT
 have HTB := hHd tb
 have LOK := hHd lok
 have HWT := hHd hw
 have HL2 := hHd hl2
 clear h hF hFT tb lok hw hl2
 go_enter Tryz.func24, Tryz.ntmps24
 go_upto_region 1 with fail
 obtain ⟨W0, hW0, b0, k0⟩ : ∃ W0, W0 = w.alloc (.cells #[.pointer (some ⟨gs, 0, none⟩)] 31) /\ Box W0 w.heap.size 31 #[.pointer (some ⟨gs, 0, none⟩)] /\ Kp (fun _ => False) w W0 := ⟨_, rfl, Box.new w _ _, (Kp.refl _ w).alloc _⟩
 rw [<- hW0]
 obtain ⟨gp, hgp⟩ : ∃ gp, w.heap.size = gp := ⟨_, rfl⟩
 rw [hgp] at b0 ⊢
 have hlt0 := b0.lt
 obtain ⟨F1, hF1⟩ : ∃ F1 : Nat -> Prop, F1 = fun k => F k /\ k ≠ gp := ⟨_, rfl⟩
 have SUB1 := hHd (show ∀ k, F1 k -> F k from fun k e => by rw [hF1] at e; exact e.1)
 have HF1 := hHd (show ∀ k, W0.heap.size <= k -> F1 k from fun k hk => by rw [hF1]; exact ⟨HF.out k (Nat.le_trans k0.size hk), by omega⟩)
 have NGP := hHd (show ¬ F1 gp from fun e => by rw [hF1] at e; exact e.2 rfl)
 have HGP := hHd hgp
 have K0 := hHd k0
 have B0 := hHd b0
 have S0 := hHd (H.out.shrink (F' := F1) k0 fun k hk e => by rw [hF1]; exact ⟨e, by omega⟩)
 clear hF1 hlt0
 have y := b0.cell 0
 clear hW0 b0 k0 hgp
 go_wp2_with fail
 obtain ⟨W3, hW3, b3, k3⟩ : ∃ W3, W3 = W0.alloc (.cells (([(Stp.mk 63 #[.pointer (some ⟨gs, 0, none⟩)] #[])] ++ [pst gs]).map Stp.v).toArray 104) /\ Box W3 W0.heap.size 104 (([(Stp.mk 63 #[.pointer (some ⟨gs, 0, none⟩)] #[])] ++ [pst gs]).map Stp.v).toArray /\ Kp (fun _ => False) W0 W3 := ⟨_, rfl, Box.new W0 _ _, (Kp.refl _ W0).alloc _⟩
 have K3 := hHd (K0.out.trans k3)
 have S3 := hHd (S0.out.still k3)
 have B3 := hHd (B0.out.kp k3 (fun e => e))
 have hcall : ∀ W, W = W3 -> Calls Tryz.prog 42 #[.slice (some ⟨W0.heap.size, 0, none⟩) 2 2] W _ := fun W e => by
  rw [e]
  exact check_order S3.out [(Stp.mk 63 #[.pointer (some ⟨gs, 0, none⟩)] #[])] [0] rfl (show 1 <= 90 by decide) b3 (fun st hst => by
   simp only [List.mem_cons, List.not_mem_nil, or_false] at hst
   subst hst
   exact enters_of Tryz.func63 (by kernel_rfl) rfl) (fun j st c V hj hc hk => by
   match j, hj, hc with
   |0, hj, hc =>
    injection hj with hj
    injection hc with hc
    subst hj
    subst hc
    exact (pis_any gs V).mono fun e w' ⟨he, hw⟩ => ⟨he, hw ▸ Kp.refl _ _⟩
   |j + 1, hj, hc => simp at hj) 2
 refine (hcall _ hW3.symm).mono ?_
 clear hcall hW3 b3 y
 rintro e V (⟨_, rfl, hs, hk⟩ | ⟨hz, _⟩)
 ·have hgps : gp ≠ gs := by have := H.out.box.lt; have := HGP.out; omega
  have B4 := hHd (B3.out.kp hk hgps)
  have LV := hHd (show W0.heap.size <= V.heap.size from Nat.le_trans k3.size hk.size)
  have K4 := hHd ((K3.out.of_false (S := F)).trans (hk.mono fun q _ e => by rw [show q = gs from e]; exact H.out.fs))
  clear k3 hgps
  rcases hp : s.pw d with _ | _
  ·rw [hp] at hs
   have HP := hHd hp
   have S4 := hHd hs
   clear hp hs hk
   go_wp2_with fail
   go_ret
   have hc : (s.dead || !d.power) = true := by
    have := HP.out
    unfold Sm.pw at this
    revert this
    cases s.dead <;> cases d.power <;> decide
   unfold Sm.commitS
   rw [if_pos hc]
   exact ⟨rfl, ⟨g1, g2, S4.out.mono SUB1.out⟩, K4.out⟩
  ·rw [hp, pw_same hp] at hs
   have HP := hHd hp
   have S4 := hHd hs
   have T4 := hHd (HTB.out.kp K4.out HFT.out)
   clear hp hs hk
   have y := B4.out.cell 0
   go_wp2_with fail
   refine (pchanged_sto S4.out).mono ?_
   rintro e w5 ⟨rfl, rfl⟩
   by_cases hk0 : s.chg.keys s.n = []
   ·have HK0 := hHd hk0
    rw [hk0]
    clear hk0
    go_wp2_with fail
    go_ret
    obtain ⟨hd, hpw⟩ := pw_alive HP.out
    have hc : (s.dead || !d.power) = false := by rw [hd, hpw]; rfl
    unfold Sm.commitS
    rw [if_neg (by rw [hc]; decide), if_pos HK0.out]
    exact ⟨rfl, ⟨g1, g2, S4.out.mono SUB1.out⟩, K4.out⟩
   ·have HK0 := hHd hk0
    obtain ⟨z, hz⟩ : ∃ z : Int, (((s.chg.keys s.n).length : Nat) : Int) = z := ⟨_, rfl⟩
    have hzn : (z == 0) = false := by
     have : (s.chg.keys s.n).length ≠ 0 := fun e => hk0 (List.eq_nil_of_length_eq_zero e)
     simp
     omega
    rw [hz]
    have y2 := S4.out.cells.2.2.2.2.1
    clear hk0 hz
    go_wp2_with fail
    clear hzn
    refine (ptext_any S4.out.chg).mono ?_
    obtain ⟨t, ht⟩ : ∃ t, s.chg.text s.n = t := ⟨_, rfl⟩
    have htl : t.length <= 1000000 := by rw [<- ht]; exact text_le S4.out.chg.1 S4.out.chg.2.1
    rw [ht]
    rintro e w6 ⟨rfl, hk6⟩
    have HT := hHd ht
    have HTL := hHd htl
    have B6 := hHd (B4.out.kp hk6 (fun e => e))
    have S6 := hHd (S4.out.still hk6)
    have T6 := hHd (T4.out.kp hk6 (fun e => e))
    have K6 := hHd (K4.out.trans (hk6.of_false (S := F)))
    have LW6 := hHd (show W0.heap.size <= w6.heap.size from Nat.le_trans LV.out hk6.size)
    clear ht htl hk6 y y2
    go_upto_region 5 with fail
    obtain ⟨W7, hW7, bt, k7⟩ : ∃ W7, W7 = w6.alloc (.cells #[.string ⟨t.toArray⟩] 9) /\ Box W7 w6.heap.size 9 #[.string ⟨t.toArray⟩] /\ Kp (fun _ => False) w6 W7 := ⟨_, rfl, Box.new w6 _ _, (Kp.refl _ w6).alloc _⟩
    rw [<- hW7]
    obtain ⟨gt, hgt⟩ : ∃ gt, w6.heap.size = gt := ⟨_, rfl⟩
    rw [hgt] at bt
    try rw [hgt]
    have hlt7 := bt.lt
    have hle7 := K6.out.size
    have hle0 := K0.out.size
    obtain ⟨F2, hF2⟩ : ∃ F2 : Nat -> Prop, F2 = fun k => F1 k /\ k ≠ gt := ⟨_, rfl⟩
    have SUB2 := hHd (show ∀ k, F2 k -> F k from fun k e => by rw [hF2] at e; exact SUB1.out k e.1)
    have HF2 := hHd (show ∀ k, W7.heap.size <= k -> F2 k from fun k hk => by rw [hF2]; exact ⟨HF1.out k (by have := LW6.out; have := k7.size; omega), by omega⟩)
    have NGP2 := hHd (show ¬ F2 gp from fun e => by rw [hF2] at e; exact NGP.out e.1)
    have NGT2 := hHd (show ¬ F2 gt from fun e => by rw [hF2] at e; exact e.2 rfl)
    have HFT2 := hHd (show ¬ F2 1 from fun e => HFT.out (SUB2.out _ e))
    have S7 := hHd (S6.out.shrink (F' := F2) k7 fun k hk e => by rw [hF2]; exact ⟨e, by omega⟩)
    have T7 := hHd (T6.out.kp k7 (fun e => e))
    have K7 := hHd (K6.out.trans (k7.of_false (S := F)))
    have BP7 := hHd (B6.out.kp k7 (fun e => e))
    have BT7 := hHd bt
    clear hW7 bt k7 hgt hlt7 hle7 hle0 hF2
    go_upto_region 6 with fail
    have hc1 := pcom1_any S7.out HF2.out HFT2.out T7.out LOK.out HTL.out HWT.out BP7.out BT7.out
    obtain ⟨R, hR⟩ : ∃ R, s.l.commitS d t = R := ⟨_, rfl⟩
    rw [hR] at hc1
    obtain ⟨l8, d8, q⟩ := R
    dsimp only at hc1
    have HC1 := hHd hc1
    have HR := hHd hR
    clear hc1 hR
    go_upto_region 7 with (first | (refine HC1.out.mono ?_) | fail)
    rintro e w8 ⟨rfl, hs8, hk8⟩
    have S8 := hHd hs8
    have kF8 : Kp F W7 w8 := hk8.mono fun k _ e => e.elim (fun e => SUB2.out k e.1.1) (fun e => by rw [e]; exact H.out.fl)
    have BP8 := hHd (BP7.out.kp hk8 (fun e => e.elim (fun e => NGP2.out e.1.1) (BP7.out.type_ne S7.out.lg (by decide))))
    have BT8 := hHd (BT7.out.kp hk8 (fun e => e.elim (fun e => NGT2.out e.1.1) (BT7.out.type_ne S7.out.lg (by decide))))
    have T8 := hHd (T7.out.kp kF8 HFT.out)
    have K8 := hHd (K7.out.trans kF8)
    have LW8 := hHd hk8.size
    clear hs8 hk8 kF8
    have y := BP8.out.cell 0
    by_cases h5 : q = 5
    ·subst h5
     obtain ⟨he, hl2⟩ := HL2.out HK0.out (by rw [HT.out, HR.out])
     rw [HT.out, HR.out] at he
     injection he with e1 he
     injection he with e2 _
     subst e1
     subst e2
     have S8' := hHd (show Sto F2 w8 gs gl b g1 g2 s d8 from S8.out)
     have HL3 := hHd hl2
     clear hl2
     go_wp2_with fail
     obtain ⟨W9, hW9, br, k9⟩ : ∃ W9, W9 = w8.alloc (.cells (([(Stp.mk 75 #[.pointer (some ⟨gs, 0, none⟩)] #[]), (Stp.mk 73 #[] #[.pointer (some ⟨gp, 0, none⟩), .pointer (some ⟨gt, 0, none⟩)])] : List Stp).map Stp.v).toArray 104) /\ Box W9 w8.heap.size 104 (([(Stp.mk 75 #[.pointer (some ⟨gs, 0, none⟩)] #[]), (Stp.mk 73 #[] #[.pointer (some ⟨gp, 0, none⟩), .pointer (some ⟨gt, 0, none⟩)])] : List Stp).map Stp.v).toArray /\ Kp (fun _ => False) w8 W9 := ⟨_, rfl, Box.new w8 _ _, (Kp.refl _ w8).alloc _⟩
     obtain ⟨gst, hgst⟩ : ∃ gst, w8.heap.size = gst := ⟨_, rfl⟩
     rw [hgst] at br
     have hlt9 := br.lt
     obtain ⟨F3, hF3⟩ : ∃ F3 : Nat -> Prop, F3 = fun k => F2 k /\ k ≠ gst := ⟨_, rfl⟩
     have SUB3 := hHd (show ∀ k, F3 k -> F k from fun k e => by rw [hF3] at e; exact SUB2.out k e.1)
     have HF3 := hHd (show ∀ k, W9.heap.size <= k -> F3 k from fun k hk => by rw [hF3]; exact ⟨HF2.out k (by have := LW8.out; have := k9.size; omega), by omega⟩)
     have NGP3 := hHd (show ¬ F3 gp from fun e => by rw [hF3] at e; exact NGP2.out e.1)
     have NGT3 := hHd (show ¬ F3 gt from fun e => by rw [hF3] at e; exact NGT2.out e.1)
     have NGS3 := hHd (show ¬ F3 gst from fun e => by rw [hF3] at e; exact e.2 rfl)
     have HFT3 := hHd (show ¬ F3 1 from fun e => HFT.out (SUB3.out _ e))
     have S9 := hHd (S8'.out.shrink (F' := F3) k9 fun k hk e => by rw [hF3]; exact ⟨e, by omega⟩)
     have T9 := hHd (T8.out.kp k9 (fun e => e))
     have K9 := hHd (K8.out.trans (k9.of_false (S := F)))
     have BP9 := hHd (BP8.out.kp k9 (fun e => e))
     have BT9 := hHd (BT8.out.kp k9 (fun e => e))
     have hro := room_order S9.out HF3.out HFT3.out T9.out LOK.out (by have := HWT.out; omega) HL3.out HTL.out BP9.out BT9.out NGP3.out NGT3.out NGS3.out br 2
     have hcr := commitS_room HP.out HK0.out (by rw [HT.out, HR.out])
     rw [HT.out, HR.out] at hcr
     have hcr : s.commitS d8 = (s.roomS d8 t).1.endS (s.roomS d8 t).2.1 (s.roomS d8 t).2.2 := hcr
     obtain ⟨R, hR2⟩ : ∃ R, s.roomS d8 t = R := ⟨_, rfl⟩
     rw [hR2] at hro hcr
     obtain ⟨s2, d2, q2⟩ := R
     dsimp only at hro hcr
     have EQ := hHd hcr
     have hcall : ∀ W, W = W9 -> Calls Tryz.prog 42 #[.slice (some ⟨w8.heap.size, 0, none⟩) 2 2] W _ := fun W e => by
      rw [e, hgst]
      exact hro
     refine (hcall _ hW9.symm).mono ?_
     clear hcall hro hcr hR2 hW9 br k9 hgst hlt9 hF3 y
     rintro e w10 ⟨rfl, ⟨g1', hs10⟩, hk10⟩
     have K10 := hHd (K9.out.trans (hk10.mono fun k _ e => SUB3.out k e))
     have S10 := hHd hs10
     have L10 := hHd (show ∀ k, w10.heap.size <= k -> F3 k from fun k hk => HF3.out k (Nat.le_trans hk10.size hk))
     have B10 := hHd (BP9.out.kp hk10 NGP3.out)
     have y := B10.out.cell 0
     clear hs10 hk10
     by_cases h6 : q2 = 6
     ·subst h6
      go_wp2_with fail
      refine (pabort_sto S10.out L10.out).mono ?_
      rintro e wa ⟨rfl, g3, _, hsa, hka⟩
      have BA := hHd (B10.out.kp hka (B10.out.type_ne S10.out.box (by decide)))
      have SA := hHd hsa
      have KA := hHd (K10.out.trans (hka.mono fun k _ e => by rw [show k = gs from e]; exact H.out.fs))
      clear hsa hka
      clear y
      have y := BA.out.cell 0
      go_wp2_with fail
      refine (phear_any SA.out 6).mono ?_
      rintro e wb ⟨rfl, hsb, hkb⟩
      have SB := hHd hsb
      have KB := hHd (KA.out.trans (hkb.mono fun k _ e => by rw [show k = gs from e]; exact H.out.fs))
      clear hsb hkb
      go_wp2_with fail
      go_ret
      have hb := SB.out.mono SUB3.out
      rw [hear_not _ (by decide)] at hb
      rw [EQ.out, endS_six]
      exact ⟨rfl, ⟨_, g3, hb⟩, KB.out⟩
     by_cases h0 : q2 = 0
     ·subst h0
      go_wp2_with fail
      refine (pdone_any S10.out L10.out).mono ?_
      rintro e wa ⟨rfl, g3, hsa, hka⟩
      have BA := hHd (B10.out.kp hka NGP3.out)
      have SA := hHd hsa
      have KA := hHd (K10.out.trans (hka.mono fun k _ e => SUB3.out k e))
      clear hsa hka
      clear y
      have y := BA.out.cell 0
      go_wp2_with fail
      refine (phear_any SA.out 0).mono ?_
      rintro e wb ⟨rfl, hsb, hkb⟩
      have SB := hHd hsb
      have KB := hHd (KA.out.trans (hkb.mono fun k _ e => by rw [show k = gs from e]; exact H.out.fs))
      clear hsb hkb
      go_wp2_with fail
      go_ret
      have hb := SB.out.mono SUB3.out
      rw [hear_not _ (by decide)] at hb
      rw [EQ.out, endS_zero]
      exact ⟨rfl, ⟨_, g3, hb⟩, KB.out⟩
     ·have n6 : (q2 == 6) = false := by simpa using h6
      have n0 : (q2 == 0) = false := by simpa using h0
      have N6 := hHd h6
      have N0 := hHd h0
      clear h6 h0
      go_wp2_with fail
      refine (phear_any S10.out q2).mono ?_
      rintro e wb ⟨rfl, hsb, hkb⟩
      have SB := hHd hsb
      have KB := hHd (K10.out.trans (hkb.mono fun k _ e => by rw [show k = gs from e]; exact H.out.fs))
      clear hsb hkb
      go_wp2_with fail
      go_ret
      rw [EQ.out, endS_else _ _ N6.out N0.out]
      exact ⟨rfl, ⟨_, g2, SB.out.mono SUB3.out⟩, KB.out⟩
    ·have n5 : (q == 5) = false := by simpa using h5
     have hce := commitS_else HP.out HK0.out (by rw [HT.out, HR.out]; exact h5)
     rw [HT.out, HR.out] at hce
     have EQ := hHd hce
     have L8 := hHd (show ∀ k, w8.heap.size <= k -> F2 k from fun k hk => HF2.out k (Nat.le_trans LW8.out hk))
     clear hce h5
     by_cases h6 : q = 6
     ·subst h6
      go_wp2_with fail
      refine (pabort_sto S8.out L8.out).mono ?_
      rintro e wa ⟨rfl, g3, _, hsa, hka⟩
      have BA := hHd (BP8.out.kp hka (BP8.out.type_ne S8.out.box (by decide)))
      have SA := hHd hsa
      have KA := hHd (K8.out.trans (hka.mono fun k _ e => by rw [show k = gs from e]; exact H.out.fs))
      clear hsa hka
      clear y
      have y := BA.out.cell 0
      go_wp2_with fail
      refine (phear_any SA.out 6).mono ?_
      rintro e wb ⟨rfl, hsb, hkb⟩
      have SB := hHd hsb
      have KB := hHd (KA.out.trans (hkb.mono fun k _ e => by rw [show k = gs from e]; exact H.out.fs))
      clear hsb hkb
      go_wp2_with fail
      go_ret
      have hb := SB.out.mono SUB2.out
      rw [hear_not _ (by decide)] at hb
      rw [EQ.out, endS_six]
      exact ⟨rfl, ⟨_, g3, hb⟩, KB.out⟩
     by_cases h0 : q = 0
     ·subst h0
      go_wp2_with fail
      refine (pdone_any S8.out L8.out).mono ?_
      rintro e wa ⟨rfl, g3, hsa, hka⟩
      have BA := hHd (BP8.out.kp hka NGP2.out)
      have SA := hHd hsa
      have KA := hHd (K8.out.trans (hka.mono fun k _ e => SUB2.out k e))
      clear hsa hka
      clear y
      have y := BA.out.cell 0
      go_wp2_with fail
      refine (phear_any SA.out 0).mono ?_
      rintro e wb ⟨rfl, hsb, hkb⟩
      have SB := hHd hsb
      have KB := hHd (KA.out.trans (hkb.mono fun k _ e => by rw [show k = gs from e]; exact H.out.fs))
      clear hsb hkb
      go_wp2_with fail
      go_ret
      have hb := SB.out.mono SUB2.out
      rw [hear_not _ (by decide)] at hb
      rw [EQ.out, endS_zero]
      exact ⟨rfl, ⟨_, g3, hb⟩, KB.out⟩
     ·have n6 : (q == 6) = false := by simpa using h6
      have n0 : (q == 0) = false := by simpa using h0
      have N6 := hHd h6
      have N0 := hHd h0
      clear h6 h0
      go_wp2_with fail
      refine (phear_any S8.out q).mono ?_
      rintro e wb ⟨rfl, hsb, hkb⟩
      have SB := hHd hsb
      have KB := hHd (K8.out.trans (hkb.mono fun k _ e => by rw [show k = gs from e]; exact H.out.fs))
      clear hsb hkb
      go_wp2_with fail
      go_ret
      rw [EQ.out, endS_else _ _ N6.out N0.out]
      exact ⟨rfl, ⟨_, g2, SB.out.mono SUB2.out⟩, KB.out⟩
 ·exact absurd rfl hz
end
end Go.Proofs.YtepaeliamhjgiaaGreatDoor
namespace Go.Proofs.YtepaeliamhjgiaaGreatDoor
open Go.RowKit Go.Maps
def rdSt (v : Value) : Option (DataW (List UInt8) × List MemPlace) := match v with
 |.string s => some (.held s.data.toList, [])
 |_ => none
theorem rdSt_mk (l : List UInt8) : rdSt (.string ⟨l.toArray⟩) = some (.held l, []) := by simp [rdSt]
theorem rdSt_inv {v : Value} {z : DataW (List UInt8) × List MemPlace} (h : rdSt v = some z) : ∃ l, v = .string ⟨l.toArray⟩ /\ z = (.held l, []) := by
 unfold rdSt at h
 split at h
 ·next s =>
  injection h with h
  exact ⟨s.data.toList, by simp, h.symm⟩
 ·cases h
theorem zeroSt (w : World) : (zeroValue 9).run Tryz.prog w = .ok (.string ⟨([] : List UInt8).toArray⟩) w := by kernel_rfl
def Smp (w : World) (g n : Nat) (m : Bm) : Prop := m.Ok n /\ n <= 1024 /\ ∃ c D, w.ownsMap Tryz.prog 3 rdSt g c D /\ SaysB D m
section
variable {w : World} {g n : Nat} {m : Bm}
theorem Smp.lt (h : Smp w g n m) : g < w.heap.size := by
 obtain ⟨_, _, c, D, ho, _⟩ := h
 exact ho.lt
theorem Smp.kp {S : Nat -> Prop} {w' : World} (h : Smp w g n m) (hk : Kp S w w') (hn : ¬ S g) : Smp w' g n m := by
 obtain ⟨h1, h2, c, D, ho, r⟩ := h
 have hlt := ho.lt
 obtain ⟨es, clock, hb, r2⟩ := ho
 exact ⟨h1, h2, c, D, ⟨es, clock, (hk.block g hlt hn).trans hb, r2⟩, r⟩
theorem Smp.still {w' : World} (h : Smp w g n m) (hk : Kp (fun _ => False) w w') : Smp w' g n m := h.kp hk fun e => e
theorem Smp.made (w : World) (hn : n <= 1024) : Smp (w.alloc (.map #[] 0)) w.heap.size n bnone :=
 ⟨bnone_ok n, hn, 0, .map [], World.ownsMap_made w _ _ _, (fun x => by show false = _; simp [bnone]), fun k p h => by cases h⟩
theorem skeys_perm {c : Nat} {D : DataW (List UInt8)} (hm : m.Ok n) (_hn : n <= 1024) (ho : w.ownsMap Tryz.prog 3 rdSt g c D) (hD : SaysB D m) : ((m.keys n).map fun i : Nat => (i : Int)).Perm (intKeys D) := by
 obtain ⟨es, hE, hpw, _⟩ := ho.entries keyedI
 obtain ⟨es', hE', hko⟩ := ho.keysOf
 obtain rfl : es = es' := by rw [hE] at hE'; simpa using hE'
 subst hE
 refine perm_intKeys hpw (fun p hp => by obtain ⟨v, hv⟩ := hko p hp; obtain ⟨x, _, hx, _⟩ := Maps.keyOf_i64 Tryz.underlying3 hv; exact ⟨x, hx⟩) ?_ fun x => ?_
 ·refine List.pairwise_map.2 ?_
  have : (m.keys n).Nodup := List.Nodup.sublist List.filter_sublist List.nodup_range
  exact this.imp fun {a b} h e => h (by have e : ((a : Nat) : Int) = (b : Nat) := e; omega)
 ·rw [hD.1 x, List.mem_map]
  constructor
  ·rintro ⟨i, hi, rfl⟩
   have := ((mem_keys i).1 hi).2
   simp [this]
  ·intro hx
   simp only [Bool.and_eq_true, decide_eq_true_eq] at hx
   refine ⟨x.toNat, (mem_keys _).2 ⟨?_, hx.2⟩, by omega⟩
   cases e : m x.toNat with
   |none => rw [e] at hx; exact absurd hx.2 (by decide)
   |some p => exact hm.in_ _ p e
theorem ssize_keys {c : Nat} {D : DataW (List UInt8)} (hm : m.Ok n) (hn : n <= 1024) (ho : w.ownsMap Tryz.prog 3 rdSt g c D) (hD : SaysB D m) : Maps.size D = (m.keys n).length := by
 rw [size_intKeys ho, <- (skeys_perm hm hn ho hD).length_eq, List.length_map]
theorem Smp.fit (h : Smp w g n m) : ∃ D, w.ownsMap Tryz.prog 3 rdSt g (m.keys n).length D /\ SaysB D m /\ Maps.size D = (m.keys n).length := by
 obtain ⟨h1, h2, c, D, ho, hD⟩ := h
 have hs := ssize_keys h1 h2 ho hD
 exact ⟨D, hs ▸ ownsMap_fit ho, hD, hs⟩
theorem wpList_putSt {ops : Array Oper} {rest : List Oper} {o : Oper} {a : Act} {Q : Exit -> Act -> World -> Prop} (hg : o.guard = none) (x y v : Operand)
  (hop : o.op = Op.mapUpdate 37 x y v) (hm : a.eval x = .map (some g)) (h : Smp w g n m) (i : Nat) (hi : i < n) (p : List UInt8) (hp : p.length = 512) (hx : a.eval y = .int .i64 i) (hv : a.eval v = .string ⟨p.toArray⟩)
  (hK : ∀ w', Smp w' g n (m.put i p) -> Kp (fun k => k = g) w w' -> wpList Tryz.prog ops Q rest (a.put o.dst undef) w') :
  wpList Tryz.prog ops Q (o :: rest) a w := by
 obtain ⟨D, ho, hD, hs⟩ := h.fit
 obtain ⟨h1, h2, _⟩ := h
 have hle := keys_le m n
 refine wpList_mapUpdate_own w hg x y v _ hop 3 9 keyedI Tryz.underlying37 _ g _ D hm ho (by simp only [maxLen]; omega) _ _ (.int .i64 i) hx hv (keyOf_int_mk Tryz.underlying3 (wf_i64 i (by omega))) _ _ (rdSt_mk p) ?_
 intro w' ho' hgr
 exact hK w' ⟨h1.put hi hp, h2, _, _, ho', hD.put ho.isMap i p⟩ ⟨hgr.os, hgr.tape, hgr.output, hgr.size, fun k hk hs => hgr.block k hk (by simpa using hs)⟩
theorem wpList_lookSt {ops : Array Oper} {rest : List Oper} {o : Oper} {a : Act} {Q : Exit -> Act -> World -> Prop} (hg : o.guard = none) (x y : Operand)
  (hop : o.op = Op.lookup 37 x y true) (hm : a.eval x = .map (some g)) (h : Smp w g n m) (i : Nat) (hi : i < 9223372036854775808) (hx : a.eval y = .int .i64 i)
  (hn : m i = none -> ∀ p : List UInt8, wpList Tryz.prog ops Q rest (a.put o.dst (.tuple #[.string ⟨p.toArray⟩, .bool false])) w)
  (hs : ∀ p, m i = some p -> wpList Tryz.prog ops Q rest (a.put o.dst (.tuple #[.string ⟨p.toArray⟩, .bool true])) w) :
  wpList Tryz.prog ops Q (o :: rest) a w := by
 obtain ⟨h1, h2, c, D, ho, hD⟩ := h
 refine wpList_lookup_own_ok w hg x y _ hop 3 9 keyedI Tryz.underlying37 rdSt (zeroSt w) _ _ (rdSt_mk []) g c D hm ho _ (.int .i64 i) hx (keyOf_int_mk Tryz.underlying3 (wf_i64 i hi)) ?_
 intro v ps hv
 obtain ⟨t, rfl, hz⟩ := rdSt_inv hv
 have hh := hD.1 (i : Int)
 rw [show ((i : Int)).toNat = i by omega] at hh
 rw [hh]
 cases hF : m i with
 |none => simpa using hn hF t
 |some p =>
  have := hD.2 i p hF (.held [])
  injection hz with hz _
  rw [this] at hz
  injection hz with hz
  subst hz
  simpa using hs p hF
theorem Smp.len (h : Smp w g n m) (ty : TypeId) : (Builtin.len_ #[37] ty #[.map (some g)]).run Tryz.prog w = .ok (.int .i64 (m.keys n).length) w := by
 obtain ⟨D, ho, hD, hs⟩ := h.fit
 rw [<- hs]
 exact ho.len Tryz.underlying37 ty
end
structure Rs where
 pg : List (List UInt8)
 chg : Bm
structure Rv (w : World) (a c g : Nat) (R : Rs) : Prop where
 row : ∃ cur : Array Value, Box w a 9 cur /\ ∀ (j : Nat) (x : Value), (strs R.pg)[j]? = some x -> cur[j]? = some x
 cap : R.pg.length <= c
 any : 0 < R.pg.length
 each : ∀ p ∈ R.pg, p.length = 512
 ch : Smp w g R.pg.length R.chg
def rsV (a c g : Nat) (R : Rs) : List Value := [.slice (some ⟨a, 0, none⟩) R.pg.length c, .map (some g)]
theorem infoRs (a c g : Nat) (R : Rs) : (Tryz.prog.info? 39).map (·.size) = some (rsV a c g R).length := by kernel_rfl
theorem rsV_one (a c g : Nat) (R : Rs) : ∀ v ∈ rsV a c g R, v.oneCell' = true := fun v hv => by
 simp only [rsV, List.mem_cons, List.not_mem_nil, or_false] at hv
 rcases hv with rfl | rfl <;> rfl
section
variable {w w' : World} {a c g : Nat} {R : Rs}
theorem Rv.kp {S : Nat -> Prop} (h : Rv w a c g R) (hk : Kp S w w') (ha : ¬ S a) (hg : ¬ S g) : Rv w' a c g R := by
 obtain ⟨cur, hb, hx⟩ := h.row
 exact ⟨⟨cur, hb.kp hk ha, hx⟩, h.cap, h.any, h.each, h.ch.kp hk hg⟩
theorem Rv.still (h : Rv w a c g R) (hk : Kp (fun _ => False) w w') : Rv w' a c g R := h.kp hk (fun e => e) fun e => e
theorem Rv.lt (h : Rv w a c g R) : a < w.heap.size /\ g < w.heap.size := by
 obtain ⟨cur, hb, _⟩ := h.row
 exact ⟨hb.lt, h.ch.lt⟩
theorem Rv.few (h : Rv w a c g R) : R.pg.length <= 1024 := h.ch.2.1
theorem Rv.cell (h : Rv w a c g R) {i : Nat} {p : List UInt8} (hi : R.pg[i]? = some p) : w.cell? ⟨a, i, none⟩ = some (.string ⟨p.toArray⟩) := by
 obtain ⟨cur, hb, hx⟩ := h.row
 rw [hb.cell]
 refine hx i _ ?_
 unfold strs
 rw [List.getElem?_map, hi]
 rfl
theorem Rv.rdr (h : Rv w a c g R) : RdR w 9 1 (.slice (some ⟨a, 0, none⟩) R.pg.length c) R.pg.length (strs R.pg) := by
 obtain ⟨cur, hb, hx⟩ := h.row
 exact ⟨by simp [strs], _, c, rfl, h.cap, .inr ⟨a, cur, rfl, hb, hx⟩⟩
end
def Rs.at_ (R : Rs) (i : Nat) : List UInt8 := (R.chg i).getD (R.pg.getD i [])
theorem Rv.at_len {w : World} {a c g : Nat} {R : Rs} (h : Rv w a c g R) {i : Nat} (hi : i < R.pg.length) : (R.at_ i).length = 512 := by
 unfold Rs.at_
 cases hc : R.chg i with
 |some p => exact h.ch.1.long i p hc
 |none =>
  have : R.pg[i]? = some R.pg[i] := List.getElem?_eq_getElem hi
  show (R.pg.getD i []).length = 512
  rw [List.getD_eq_getElem?_getD, this]
  exact h.each _ (List.getElem_mem hi)
theorem start_one (w : World) (a c g : Nat) (R : Rs) : ∃ W, W = w.alloc (.cells (rsV a c g R).toArray 39) /\ Box W w.heap.size 39 (rsV a c g R).toArray /\ Kp (fun _ => False) w W := ⟨_, rfl, Box.new w _ _, (Kp.refl _ w).alloc _⟩
theorem start_two (w : World) (a c g : Nat) (R : Rs) : ∃ W, W = (w.alloc (.cells (rsV a c g R).toArray 39)).alloc (.cells #[.slice none 0 0, .map none] 39) /\ Box W w.heap.size 39 (rsV a c g R).toArray /\ Box W (w.heap.size + 1) 39 #[.slice none 0 0, .map none] /\ Kp (fun _ => False) w W := by
 refine ⟨_, rfl, (Box.new w _ _).alloc _, ?_, ((Kp.refl _ w).alloc _).alloc _⟩
 have := Box.new (w.alloc (.cells (rsV a c g R).toArray 39)) 39 #[.slice none 0 0, .map none]
 rwa [World.size_alloc] at this
theorem rzero_any (w : World) : Calls Tryz.prog 82 #[] w fun e w' => e = .returned (.string ⟨zsec.toArray⟩) /\ Kp (fun _ => False) w w' := by
 obtain ⟨i, i1, i2, i3, i4⟩ := u8Info
 have hmk : (Instr.makeSlice 50 (.int .i64 512) (.int .i64 512)).run Tryz.prog w = .ok (.slice (some ⟨w.heap.size, 0, none⟩) 512 512) (w.alloc (.cells (bcs zsec).toArray 5)) := by
  have := run_make (P := Tryz.prog) w 50 _ i _ Tryz.underlying50 i1 i2 .i64 .i64 512 512 (by decide) (by decide) (by rw [i4]; decide) (by decide)
  have e : madeCells (Value.int .u8 0).cells ((512 : Int).toNat * i.size) = (bcs zsec).toArray := by
   rw [i3, bcs_zsec]
   exact dmade_rep 1 512 (by decide) (.int .u8 0)
  rw [e] at this
  exact this
 have hrd : Rd (w.alloc (.cells (bcs zsec).toArray 5)) (some ⟨w.heap.size, 0, none⟩) zsec := .inr ⟨w.heap.size, 0, rfl, fun j u hj => by
  rw [Nat.zero_add, (Box.new w 5 (bcs zsec).toArray).cell, List.getElem?_toArray]
  unfold bcs
  rw [List.getElem?_map, hj]
  rfl⟩
 have ht := hrd.text (P := Tryz.prog) 50 9 5 512 Tryz.underlying50 Tryz.underlying5 Tryz.underlying9
 rw [zsec_length] at ht
 clear i1 i2 i3 i4 hrd
 go_enter Tryz.func82, Tryz.ntmps82
 go_wp2_with fail
 go_ret
 exact ⟨rfl, (Kp.refl _ w).alloc _⟩
end Go.Proofs.YtepaeliamhjgiaaGreatDoor
