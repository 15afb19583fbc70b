/- The law of pages, part 35 of 55: PgChk PgPut PgTold PgUse PgFree. -/
import Derived.Test.YtepaeliamhjgiaaGreatDoorMu1
import Derived.Test.YtepaeliamhjgiaaGreatDoorMu34
set_option maxHeartbeats 16000000
set_option maxRecDepth 100000
namespace Go.Proofs.YtepaeliamhjgiaaGreatDoor
open Go.RowKit Go.Maps Go.Shelf
def fst0 : List Int -> Int
 |[] => 0
 |c :: r => if c = 0 then fst0 r else c
theorem fst0_all : ∀ cs : List Int, (∀ (j : Nat) (c : Int), cs[j]? = some c -> c = 0) -> fst0 cs = 0
 |[], _ => rfl
 |c :: r, h => by
  have h0 : c = 0 := h 0 c rfl
  unfold fst0
  rw [if_pos h0]
  exact fst0_all r fun j c' hj => h (j + 1) c' (by simpa using hj)
theorem fst0_at : ∀ (cs : List Int) (i : Nat) (c : Int), (∀ (j : Nat) (c : Int), j < i -> cs[j]? = some c -> c = 0) -> cs[i]? = some c -> c ≠ 0 -> fst0 cs = c
 |[], i, c, _, hc, _ => by simp at hc
 |x :: r, 0, c, _, hc, hne => by
  simp at hc
  subst hc
  unfold fst0
  rw [if_neg hne]
 |x :: r, i + 1, c, h, hc, hne => by
  have h0 : x = 0 := h 0 x (by omega) rfl
  unfold fst0
  rw [if_pos h0]
  exact fst0_at r i c (fun j c' hj hj2 => h (j + 1) c' (by omega) (by simpa using hj2)) (by simpa using hc) hne
def pst (gs : Nat) : Stp := ⟨65, #[.pointer (some ⟨gs, 0, none⟩)], #[]⟩
section
variable {F : Nat -> Prop} {w w' : World} {gs gl b g1 g2 gst : Nat} {s : Sm} {d : Dm}
theorem check_order (h : Sto F w gs gl b g1 g2 s d) (l : List Stp) (cs : List Int) (hlen : cs.length = l.length) (hl : l.length <= 90) (hr : Box w gst 104 ((l ++ [pst gs]).map Stp.v).toArray) (he : ∀ s ∈ l, Enters Tryz.prog s.f)
  (hs : ∀ (i : Nat) (st : Stp) (c : Int) (V : World), l[i]? = some st -> cs[i]? = some c -> Kp (fun _ => False) w V -> Calls Tryz.prog st.f st.args V fun e V' => e = .returned (.int .i64 c) /\ Kp (fun _ => False) V V') (cp : Nat) :
  Calls Tryz.prog 42 #[.slice (some ⟨gst, 0, none⟩) (l.length + 1) cp] w fun e V => (fst0 cs = 0 /\ e = .returned (.int .i64 (if s.pw d then 0 else 4)) /\ Sto F V gs gl b g1 g2 { s with dead := !s.pw d } d /\ Kp (fun k => k = gs) w V) \/
   (fst0 cs ≠ 0 /\ e = .returned (.int .i64 (fst0 cs)) /\ Kp (fun _ => False) w V) := by
 have hne : gst ≠ gs := hr.type_ne h.box (by decide)
 have hord := order_any (l ++ [pst gs]) gst cp w
  (fun i V => (∀ (j : Nat) (c : Int), j < i -> cs[j]? = some c -> c = 0) /\ Kp (fun k => k = gs) w V /\ (i <= l.length -> Kp (fun _ => False) w V) /\ (l.length < i -> s.pw d = true /\ Sto F V gs gl b g1 g2 { s with dead := !s.pw d } d))
  (fun q V => (fst0 cs = 0 /\ q = 4 /\ s.pw d = false /\ Sto F V gs gl b g1 g2 { s with dead := !s.pw d } d /\ Kp (fun k => k = gs) w V) \/ (fst0 cs ≠ 0 /\ q = fst0 cs /\ Kp (fun _ => False) w V))
  (fun i V hi j st hj => by
   have hb := hr.kp hi.2.1 hne
   rw [hb.cell, List.getElem?_toArray, List.getElem?_map, hj]
   rfl)
  ⟨fun j c hj => by omega, Kp.refl _ w, fun _ => Kp.refl _ w, fun h => by omega⟩
  (fun st hst => by
   rcases List.mem_append.1 hst with hst | hst
   ·exact he st hst
   ·rw [List.mem_singleton.1 hst]
    exact enters_of Tryz.func65 (by kernel_rfl) rfl)
  (by rw [List.length_append, List.length_singleton]; omega)
  (fun i st V hi hI => by
   obtain ⟨h0, hkg, hkf, hlast⟩ := hI
   rcases Nat.lt_trichotomy i l.length with hlt | heq | hgt
   ·rw [List.getElem?_append_left hlt] at hi
    obtain ⟨c, hc⟩ : ∃ c, cs[i]? = some c := ⟨_, List.getElem?_eq_getElem (by omega)⟩
    refine (hs i st c V hi hc (hkf (by omega))).mono ?_
    rintro e V' ⟨rfl, hk⟩
    refine ⟨c, rfl, ?_⟩
    have hkk := (hkf (by omega)).trans hk
    by_cases hz : c = 0
    ·refine .inl ⟨hz, fun j c' hj hj2 => ?_, hkg.trans hk.of_false, fun _ => hkk, fun h => by omega⟩
     rcases Nat.lt_or_ge j i with hji | hji
     ·exact h0 j c' hji hj2
     ·have : j = i := by omega
      subst this
      rw [hc] at hj2
      injection hj2 with hj2
      rw [<- hj2]
      exact hz
    ·have hf := fst0_at cs i c h0 hc hz
     exact .inr ⟨hz, .inr ⟨by rw [hf]; exact hz, hf.symm, hkk⟩⟩
   ·subst heq
    rw [List.getElem?_append_right (Nat.le_refl _), Nat.sub_self] at hi
    simp only [List.getElem?_cons_zero, Option.some.injEq] at hi
    subst hi
    have hf : fst0 cs = 0 := fst0_all cs fun j c hj => h0 j c (by have := (List.getElem?_eq_some_iff.1 hj).1; omega) hj
    have hV := h.still (hkf (Nat.le_refl _))
    refine (ppower_any hV).mono ?_
    rintro e V' ⟨rfl, hs', hk⟩
    refine ⟨_, rfl, ?_⟩
    rcases hp : s.pw d with _ | _
    ·rw [hp] at hs'
     exact .inr ⟨by decide, .inl ⟨hf, rfl, rfl, hs', hkg.trans hk⟩⟩
    ·rw [hp] at hs'
     refine .inl ⟨by decide, fun j c hj hj2 => ?_, hkg.trans hk, fun h => by omega, fun _ => ⟨rfl, hs'⟩⟩
     exact h0 j c (by have := (List.getElem?_eq_some_iff.1 hj2).1; omega) hj2
   ·rw [List.getElem?_eq_none (by simp; omega)] at hi
    cases hi)
 rw [List.length_append, List.length_singleton] at hord
 refine hord.mono ?_
 rintro e V (⟨rfl, h0, hkg, _, hlast⟩ | ⟨q, hq, rfl, hE⟩)
 ·obtain ⟨hp, hS⟩ := hlast (by omega)
  refine .inl ⟨fst0_all cs fun j c hj => h0 j c (by have := (List.getElem?_eq_some_iff.1 hj).1; omega) hj, ?_, hS, hkg⟩
  rw [hp]
  rfl
 ·rcases hE with ⟨h1, rfl, hp, hS, hk⟩ | ⟨h1, rfl, hk⟩
  ·refine .inl ⟨h1, ?_, hS, hk⟩
   rw [hp]
   rfl
  ·exact .inr ⟨h1, rfl, hk⟩
end
theorem phasv_any (gs : Nat) (i : Int) (w : World) :
  Calls Tryz.prog 64 #[.pointer (some ⟨gs, 0, none⟩), .int .i64 i] w fun e w' => ∃ ga gb, e = .returned (.func (.func 117) #[] #[.pointer (some ⟨gb, 0, none⟩), .pointer (some ⟨ga, 0, none⟩)]) /\ Box w' ga 31 #[.pointer (some ⟨gs, 0, none⟩)] /\ Box w' gb 3 #[.int .i64 i] /\ Kp (fun _ => False) w w' := by
 go_enter Tryz.func64, Tryz.ntmps64
 go_wp2_with fail
 go_ret
 have h1 := Box.new w 31 #[.pointer (some ⟨gs, 0, none⟩)]
 have h2 := Box.new (w.alloc (.cells #[.pointer (some ⟨gs, 0, none⟩)] 31)) 3 #[.int .i64 i]
 rw [World.size_alloc] at h2
 exact ⟨_, _, rfl, h1.alloc _, h2, ((Kp.refl _ w).alloc _).alloc _⟩
theorem pfreev_any (gs : Nat) (i : Int) (w : World) :
  Calls Tryz.prog 71 #[.pointer (some ⟨gs, 0, none⟩), .int .i64 i] w fun e w' => ∃ ga gb, e = .returned (.func (.func 124) #[] #[.pointer (some ⟨gb, 0, none⟩), .pointer (some ⟨ga, 0, none⟩)]) /\ Box w' ga 31 #[.pointer (some ⟨gs, 0, none⟩)] /\ Box w' gb 3 #[.int .i64 i] /\ Kp (fun _ => False) w w' := by
 go_enter Tryz.func71, Tryz.ntmps71
 go_wp2_with fail
 go_ret
 have h1 := Box.new w 31 #[.pointer (some ⟨gs, 0, none⟩)]
 have h2 := Box.new (w.alloc (.cells #[.pointer (some ⟨gs, 0, none⟩)] 31)) 3 #[.int .i64 i]
 rw [World.size_alloc] at h2
 exact ⟨_, _, rfl, h1.alloc _, h2, ((Kp.refl _ w).alloc _).alloc _⟩
theorem pputv_any (P : Value) (i : Int) (A : Option Addr) (m c : Nat) (w : World) :
  Calls Tryz.prog 70 #[P, .int .i64 i, .slice A m c] w fun e w' => ∃ gi gb, e = .returned (.func (.func 123) #[] #[.pointer (some ⟨gi, 0, none⟩), .pointer (some ⟨gb, 0, none⟩)]) /\ Box w' gi 3 #[.int .i64 i] /\ Box w' gb 50 #[.slice A m c] /\ Kp (fun _ => False) w w' := by
 go_enter Tryz.func70, Tryz.ntmps70
 go_wp2_with fail
 go_ret
 have h1 := Box.new w 3 #[.int .i64 i]
 have h2 := Box.new (w.alloc (.cells #[.int .i64 i] 3)) 50 #[.slice A m c]
 rw [World.size_alloc] at h2
 exact ⟨_, _, rfl, h1.alloc _, h2, ((Kp.refl _ w).alloc _).alloc _⟩
theorem Sto.setChg {F : Nat -> Prop} {w w' : World} {gs gl b g1 g2 : Nat} {s : Sm} {d : Dm} {m : Bm} (h : Sto F w gs gl b g1 g2 s d) (hk : Kp (fun k => k = g2) w w') (hm : Pgm w' g2 s.n m) : Sto F w' gs gl b g1 g2 { s with chg := m } d :=
 ⟨h.fs, h.fl, h.f1, h.f2, h.ne, h.box.kp hk (fun e => h.g1ne.2.1 e.symm), h.lg.kp hk (fun e => h.chg.not_cells (by have := h.lg; have e : gl = g2 := e; rw [e] at this; exact this)), h.late.kp hk h.ne, hm, h.dk.kp hk (fun k e e2 => e.2.2 e2), h.u, h.cu⟩
def Sm.putS (s : Sm) (d : Dm) (i : Int) (p : List UInt8) : Sm × Int :=
 if hasP s.n i && putP i p.length then if s.pw d then ({ s with dead := false, chg := s.chg.put i.toNat p }, 0) else ({ s with dead := true }, 4) else (s, 2)
theorem pputs_any {F : Nat -> Prop} {w : World} {gs gl b g1 g2 : Nat} {s : Sm} {d : Dm} (h : Sto F w gs gl b g1 g2 s d) (hF : ∀ k, w.heap.size <= k -> F k) (i : Int) (A : Option Addr) (p : List UInt8) (c : Nat) (hr : Rd w A p) (hA : ∀ a, A = some a -> ¬ F a.block) :
  Calls Tryz.prog 22 #[.pointer (some ⟨gs, 0, none⟩), .int .i64 i, .slice A p.length c] w fun e w' => e = .returned (.int .i64 (s.putS d i p).2) /\ Sto F w' gs gl b g1 g2 (s.putS d i p).1 d /\ Kp F w w' := by
 have H := hHd h
 have HF := hHd hF
 have HR := hHd hr
 have HA := hHd hA
 clear h hF hr hA
 go_enter Tryz.func22, Tryz.ntmps22
 go_wp2_with fail
 refine (phasv_any gs i w).mono ?_
 rintro e w1 ⟨ga, gb, rfl, ha, hb, hk1⟩
 have BA := hHd ha
 have BB := hHd hb
 have K1 := hHd hk1
 clear ha hb hk1
 go_wp2_with fail
 refine (pputv_any _ i A p.length c w1).mono ?_
 rintro e w2 ⟨gc, ge, rfl, hc, he, hk2⟩
 have BC := hHd hc
 have BE := hHd he
 have K2 := hHd hk2
 clear hc he hk2
 go_wp2_with fail
 obtain ⟨x1, hx1⟩ : ∃ x1 : Int, (if hasP s.n i then 0 else 2) = x1 := ⟨_, rfl⟩
 obtain ⟨x2, hx2⟩ : ∃ x2 : Int, (if putP i p.length then 0 else 2) = x2 := ⟨_, rfl⟩
 obtain ⟨W3, hW3, b3, k3⟩ : ∃ W3, W3 = w2.alloc (.cells (([(Stp.mk 63 #[.pointer (some ⟨gs, 0, none⟩)] #[]), (Stp.mk 117 #[] #[.pointer (some ⟨gb, 0, none⟩), .pointer (some ⟨ga, 0, none⟩)]), (Stp.mk 123 #[] #[.pointer (some ⟨gc, 0, none⟩), .pointer (some ⟨ge, 0, none⟩)])] ++ [pst gs]).map Stp.v).toArray 104) /\ Box W3 w2.heap.size 104 (([(Stp.mk 63 #[.pointer (some ⟨gs, 0, none⟩)] #[]), (Stp.mk 117 #[] #[.pointer (some ⟨gb, 0, none⟩), .pointer (some ⟨ga, 0, none⟩)]), (Stp.mk 123 #[] #[.pointer (some ⟨gc, 0, none⟩), .pointer (some ⟨ge, 0, none⟩)])] ++ [pst gs]).map Stp.v).toArray /\ Kp (fun _ => False) w2 W3 := ⟨_, rfl, Box.new w2 _ _, (Kp.refl _ w2).alloc _⟩
 have K3 := hHd ((K1.out.trans K2.out).trans k3)
 have S3 := hHd (H.out.still K3.out)
 have hcall : ∀ W, W = W3 -> Calls Tryz.prog 42 #[.slice (some ⟨w2.heap.size, 0, none⟩) 4 4] W _ := fun W e => by
  rw [e]
  exact check_order S3.out [(Stp.mk 63 #[.pointer (some ⟨gs, 0, none⟩)] #[]), (Stp.mk 117 #[] #[.pointer (some ⟨gb, 0, none⟩), .pointer (some ⟨ga, 0, none⟩)]), (Stp.mk 123 #[] #[.pointer (some ⟨gc, 0, none⟩), .pointer (some ⟨ge, 0, none⟩)])] [0, x1, x2] rfl (show 3 <= 90 by decide) b3 (fun st hst => by
   simp only [List.mem_cons, List.not_mem_nil, or_false] at hst
   rcases hst with rfl | rfl | rfl
   ·exact enters_of Tryz.func63 (by kernel_rfl) rfl
   ·exact enters_of Tryz.func117 (by kernel_rfl) rfl
   ·exact enters_of Tryz.func123 (by kernel_rfl) rfl) (fun j st c V hj hc hk => by
   match j, hj, hc with
   |0, hj, hc =>
    injection hj with hj
    injection hc with hc
    subst hj
    subst hc
    exact (pis_any gs V).mono fun e w' ⟨he, hw⟩ => ⟨he, hw ▸ Kp.refl _ _⟩
   |1, hj, hc =>
    injection hj with hj
    injection hc with hc
    subst hj
    subst hc
    rw [<- hx1]
    exact phas_any (S3.out.still hk) (((BB.out.kp K2.out (fun e => e)).kp k3 (fun e => e)).kp hk (fun e => e)) (((BA.out.kp K2.out (fun e => e)).kp k3 (fun e => e)).kp hk (fun e => e))
   |2, hj, hc =>
    injection hj with hj
    injection hc with hc
    subst hj
    subst hc
    rw [<- hx2]
    exact pput_any A p.length c ((BC.out.kp k3 (fun e => e)).kp hk (fun e => e)) ((BE.out.kp k3 (fun e => e)).kp hk (fun e => e))
   |j + 3, hj, hc => simp at hj) 4
 refine (hcall _ hW3.symm).mono ?_
 clear hcall hW3 b3
 rintro e V (⟨hz, rfl, hs, hk⟩ | ⟨hz, rfl, hk⟩)
 ·have hc1 : hasP s.n i = true := by
   rcases h : hasP s.n i with _ | _
   ·rw [h] at hx1
    rw [<- hx1] at hz
    simp [fst0] at hz
   ·rfl
  have hc2 : putP i p.length = true := by
   rcases h : putP i p.length with _ | _
   ·rw [h] at hx2
    rw [<- hx2] at hz
    rw [hc1] at hx1
    rw [<- hx1] at hz
    simp [fst0] at hz
   ·rfl
  have HC1 := hHd hc1
  have HC2 := hHd hc2
  have K4 := hHd ((K3.out.of_false (S := F)).trans (hk.mono fun q _ e => by rw [show q = gs from e]; exact H.out.fs))
  clear hz hx1 hx2 hc1 hc2 k3
  rcases hp : s.pw d with _ | _
  ·rw [hp] at hs
   have HP := hHd hp
   have S4 := hHd hs
   clear hp hs hk
   go_wp2_with fail
   go_ret
   unfold Sm.putS
   rw [HC1.out, HC2.out, HP.out]
   exact ⟨rfl, S4.out, K4.out⟩
  ·rw [hp] at hs
   have HP := hHd hp
   clear hp
   obtain ⟨hge, hlt⟩ : 0 <= i /\ i < (s.n : Int) := by simpa [hasP] using HC1.out
   obtain ⟨hi0, hl5⟩ : ¬ i = 0 /\ p.length = 512 := by simpa [putP] using HC2.out
   obtain ⟨k, rfl⟩ := Int.eq_ofNat_of_zero_le hge
   have HKN := hHd (show k < s.n by omega)
   have HL5 := hHd hl5
   have hVd : Kp (fun _ => False) V V.drew := (Kp.refl _ V).drew
   have S4 := hHd (hs.still hVd)
   have K4 := hHd (K4.out.trans (hVd.of_false (S := F)))
   obtain ⟨b0, o0, hA0, hrd⟩ : ∃ b0 o0, A = some ⟨b0, o0, none⟩ /\ ∀ j u, p[j]? = some u -> w.cell? ⟨b0, o0 + j, none⟩ = some (.int .u8 u.toNat) := by
    rcases HR.out with h | ⟨b2, o2, h, h'⟩
    ·rw [h] at hl5; cases hl5
    ·exact ⟨b2, o2, h, h'⟩
   subst hA0
   have HB2 := hHd (show ¬ b0 = g2 from fun e => HA.out _ rfl (by rw [show (⟨b0, o0, none⟩ : Addr).block = b0 from rfl, e]; exact H.out.f2))
   have YR := hHd (show V.drew.rangeAt b0 o0 (bcs p) from fun j v hj => by
    rw [bcs_get] at hj
    cases hu : p[j]? with
    |none => rw [hu] at hj; cases hj
    |some u =>
     rw [hu] at hj
     injection hj with hj
     subst hj
     have hc := hrd j u hu
     exact (K4.out.cell (p := ⟨b0, o0 + j, none⟩) (World.block_lt_of_cell? _ _ hc) (fun e => HA.out ⟨b0, o0, none⟩ rfl e)).trans hc)
   have YC := hHd (show V.drew.cell? ⟨gs, 21, none⟩ = some (.map (some g2)) from S4.out.cells.2.2.2.2.1)
   clear hs hk hge hlt hi0 hVd hrd
   have hat : ∀ W, (Instr.arrayAt 107 (.slice (some ⟨b0, o0, none⟩) 512 c)).run Tryz.prog W = .ok (.pointer (some ⟨b0, o0, none⟩)) W := fun W => run_arrayAt W 107 _ 512 _ 512 c Tryz.underlying107 (Nat.le_refl _)
   rw [hl5]
   clear hl5
   go_upto_region 4 with fail
   refine wp_region_held_drew (S := fun v => v.cell? ⟨gs, 21, none⟩ = some (.map (some g2)) /\ v.rangeAt b0 o0 (bcs p)) (by kernel_rfl) (⟨YC.out, YR.out⟩) (fun hHeld => ?_)
   refine tk 0 (h := ?_)
   refine tk 1 (h := ?_)
   refine tk 2 (h := ?_)
   refine tk 3 (h := ?_)
   refine tk 4 (v := ?_) (hy := ?_) (h := ?_)
   rotate_left
   ·intro v hSw
    have y := hSw.1
    go_simp
    with_reducible rfl
   refine tk 5 (h := ?_)
   refine tk 6 (h := ?_)
   refine tk 7 (h := ?_)
   refine tk 8 (hy := fun v hSw => exec_load_mid 107 (.tmp 31) rfl b0 o0 rfl (bcs p) _ hSw.2 Tryz.underlying107 rfl (by rw [bcs_length, HL5.out]; exact infoPg)) (h := ?_)
   refine rd 9 (h := fun K hK => ?_)
   rw [if_pos (by rfl)]
   refine wp_putPg (.tmp 28) (.tmp 29) (.tmp 32) rfl rfl S4.out.chg k HKN.out p HL5.out rfl rfl ?_
   intro w5 hm5 hk5
   have S5 := hHd (S4.out.setChg hk5 hm5)
   have YC5 := hHd (show w5.cell? ⟨gs, 21, none⟩ = some (.map (some g2)) from S5.out.cells.2.2.2.2.1)
   have YR5 := hHd (show w5.rangeAt b0 o0 (bcs p) from fun j v hj => (hk5.cell (p := ⟨b0, o0 + j, none⟩) (World.block_lt_of_cell? _ _ (YR.out j v hj)) HB2.out).trans (YR.out j v hj))
   have K5 := hHd hk5
   clear hm5 hk5
   refine hK.out _ _ (⟨YC5.out, YR5.out⟩) (fun hHeld1 => ?_)
   clear hK K
   try simp only [Act.put]
   refine wpAnyH_done (by kernel_rfl) ?_ _
   clear hHeld
   go_wp2_with fail
   go_ret
   unfold Sm.putS
   rw [HC1.out, HC2.out, HP.out]
   exact ⟨rfl, S5.out, K4.out.trans (K5.out.mono fun q _ e => by rw [show q = g2 from e]; exact H.out.f2)⟩
 ·have hf : fst0 [0, x1, x2] = 2 /\ (hasP s.n i && putP i p.length) = false := by
   rw [<- hx1, <- hx2] at hz ⊢
   revert hz
   rcases hasP s.n i <;> rcases putP i p.length <;> simp [fst0]
  have HC := hHd hf.2
  rw [hf.1]
  have K4 := hHd (K3.out.trans hk)
  clear hf hz hx1 hx2 hk k3
  go_wp2_with fail
  go_ret
  unfold Sm.putS
  rw [HC.out]
  exact ⟨rfl, H.out.still K4.out, K4.out.of_false⟩
theorem pnote_nil (w : World) : Calls Tryz.prog 15 #[.pointer none] w fun e w' => e = .returned (.string ⟨#[]⟩) /\ w = w' := by
 go_enter Tryz.func15, Tryz.ntmps15
 go_wp2_with fail
 go_ret
 exact ⟨rfl, rfl⟩
theorem pbehind_nil (w : World) : Calls Tryz.prog 17 #[.pointer none] w fun e w' => e = .returned (.int .i64 0) /\ w = w' := by
 go_enter Tryz.func17, Tryz.ntmps17
 go_wp2_with fail
 go_ret
 exact ⟨rfl, rfl⟩
theorem pdisk_nil (w : World) : Calls Tryz.prog 26 #[.pointer none] w fun e w' => e = .returned (.pointer none) /\ w = w' := by
 go_enter Tryz.func26, Tryz.ntmps26
 go_wp2_with fail
 go_ret
 exact ⟨rfl, rfl⟩
theorem pused_nil (w : World) : Calls Tryz.prog 18 #[.pointer none] w fun e w' => e = .returned (.int .i64 0) /\ w = w' := by
 go_enter Tryz.func18, Tryz.ntmps18
 go_wp2_with fail
 go_ret
 exact ⟨rfl, rfl⟩
theorem pchanged_nil (w : World) : Calls Tryz.prog 25 #[.pointer none] w fun e w' => e = .returned (.int .i64 0) /\ w = w' := by
 go_enter Tryz.func25, Tryz.ntmps25
 go_wp2_with fail
 go_ret
 exact ⟨rfl, rfl⟩
theorem ppages_nil (w : World) : Calls Tryz.prog 16 #[.pointer none] w fun e w' => e = .returned (.int .i64 0) /\ w = w' := by
 go_enter Tryz.func16, Tryz.ntmps16
 go_wp2_with fail
 go_ret
 exact ⟨rfl, rfl⟩
section
variable {F : Nat -> Prop} {w w' : World} {gs gl b g1 g2 : Nat} {s : Sm} {d : Dm}
theorem pnote_sto (h : Sto F w gs gl b g1 g2 s d) : Calls Tryz.prog 15 #[.pointer (some ⟨gs, 0, none⟩)] w fun e w' => e = .returned (.string ⟨s.note.toArray⟩) /\ w = w' := by
 have y := h.cells.2.2.1
 clear h
 go_enter Tryz.func15, Tryz.ntmps15
 go_wp2_with fail
 go_ret
 exact ⟨rfl, rfl⟩
theorem pdisk_sto (h : Sto F w gs gl b g1 g2 s d) : Calls Tryz.prog 26 #[.pointer (some ⟨gs, 0, none⟩)] w fun e w' => e = .returned (.pointer (some ⟨b, 0, none⟩)) /\ w = w' := by
 have y := h.cells.2.1
 clear h
 go_enter Tryz.func26, Tryz.ntmps26
 go_wp2_with fail
 go_ret
 exact ⟨rfl, rfl⟩
theorem pused_sto (h : Sto F w gs gl b g1 g2 s d) : Calls Tryz.prog 18 #[.pointer (some ⟨gs, 0, none⟩)] w fun e w' => e = .returned (.int .i64 ((Bt.cntF s.cused s.n : Nat) : Int)) /\ Kp (fun _ => False) w w' := by
 have HU := hHd h.cused
 have HW := hHd h.cu
 clear h
 go_enter Tryz.func18, Tryz.ntmps18
 go_wp2_with (first | (refine wpList_load_mid rfl 82 (.tmp 8) rfl gs 22 rfl (Bt.mcs s.cused s.n) _ HU.out Tryz.underlying82 rfl (Bt.infoMca _ _) ?_) | fail)
 refine (Bt.used_any s.cused s.n w HW.out).mono ?_
 rintro e w1 ⟨rfl, hk⟩
 have K := hHd hk
 clear hk
 go_wp2_with fail
 go_ret
 exact ⟨rfl, K.out⟩
theorem pbehind_sto (h : Sto F w gs gl b g1 g2 s d) (hL : s.l.h.n <= 100000) : Calls Tryz.prog 17 #[.pointer (some ⟨gs, 0, none⟩)] w fun e w' => e = .returned (.int .i64 ((2 + s.l.h.n + s.n : Nat) : Int)) /\ Kp (fun _ => False) w w' := by
 have y := h.cells.1
 have H := hHd h
 have HN := hHd h.u.1
 have HLG := hHd h.lg
 obtain ⟨L, hLn⟩ : ∃ L, s.l.h.n = L := ⟨_, rfl⟩
 rw [hLn] at hL ⊢
 have HLN := hHd hLn
 have HL := hHd hL
 clear h hL hLn
 go_enter Tryz.func17, Tryz.ntmps17
 go_wp2_with fail
 refine (lsectors_any HLG.out).mono ?_
 rintro e w1 ⟨rfl, rfl⟩
 rw [HLN.out]
 go_wp2_with fail
 refine (ppages_any H.out).mono ?_
 rintro e w1 ⟨rfl, hk⟩
 have K := hHd hk
 clear hk
 go_wp2_with fail
 refine (psector_any L s.n HL.out (by have := HN.out; omega) _).mono ?_
 rintro e w2 ⟨rfl, rfl⟩
 go_wp2_with fail
 go_ret
 exact ⟨rfl, K.out⟩
theorem pchanged_sto (h : Sto F w gs gl b g1 g2 s d) : Calls Tryz.prog 25 #[.pointer (some ⟨gs, 0, none⟩)] w fun e w' => e = .returned (.int .i64 (((s.chg.keys s.n).length : Nat) : Int)) /\ w = w' := by
 have y := h.cells.2.2.2.2.1
 obtain ⟨D, ho, hD, hs⟩ := h.chg.fit
 have hlen : ∀ ty : TypeId, (Builtin.len_ #[78] ty #[.map (some g2)]).run Tryz.prog w = .ok (.int .i64 (((s.chg.keys s.n).length : Nat) : Int)) w := fun ty => by
  rw [ho.len Tryz.underlying78 ty, hs]
 generalize (s.chg.keys s.n).length = q at hlen ⊢
 clear h ho hD hs
 go_enter Tryz.func25, Tryz.ntmps25
 go_wp2_with fail
 go_ret
 exact ⟨rfl, rfl⟩
end
theorem setF_wf {f : Nat -> Bool} {n : Nat} (h : Bt.Wf f n) (i : Int) (u : Bool) : Bt.Wf (Bt.setF f n i u) n := by
 refine ⟨h.1, fun j hj => ?_⟩
 unfold Bt.setF
 split
 ·next hp =>
  unfold Bt.upd
  split
  ·next e =>
   simp [Bt.pgB] at hp
   omega
  ·exact h.2 j hj
 ·exact h.2 j hj
def Sm.useS (s : Sm) (i : Int) (u : Bool) : Sm := { s with cused := Bt.setF s.cused s.n i u, chg := s.chg.put 0 (Bt.pageL (Bt.setF s.cused s.n i u)) }
theorem use_any {F : Nat -> Prop} {w : World} {gs gl b g1 g2 : Nat} {s : Sm} {d : Dm} (h : Sto F w gs gl b g1 g2 s d) (h0 : 0 < s.n) (i : Int) (u : Bool) :
  Calls Tryz.prog 69 #[.pointer (some ⟨gs, 21, none⟩), .int .i64 i, .bool u] w fun e w' => e = .returned (.tuple #[]) /\ Sto F w' gs gl b g1 g2 (s.useS i u) d /\ Kp (fun k => k = gs \/ k = g2) w w' := by
 obtain ⟨f1, hf1⟩ : ∃ f1, Bt.setF s.cused s.n i u = f1 := ⟨_, rfl⟩
 unfold Sm.useS
 have hset := Bt.set_any s.cused s.n i u w h.cu.1
 have hwf := setF_wf h.cu i u
 rw [hf1] at hset hwf ⊢
 have HSET := hHd hset
 have HWF := hHd hwf
 have H := hHd h
 have HN0 := hHd h0
 have HU := hHd h.cused
 clear h h0 hset hwf hf1
 go_enter Tryz.func69, Tryz.ntmps69
 go_wp2_with (first | (refine wpList_load_mid rfl 82 (.tmp 9) rfl gs 22 rfl (Bt.mcs s.cused s.n) _ HU.out Tryz.underlying82 rfl (Bt.infoMca _ _) ?_) | fail)
 refine HSET.out.mono ?_
 rintro e w1 ⟨rfl, hk1⟩
 have hst := (H.out.still hk1).stb
 have hbx := hst.2.2
 rw [stc_cm] at hbx
 have HBX := hHd hbx
 have HST := hHd hst
 have S1 := hHd (H.out.still hk1)
 have K1 := hHd hk1
 clear hbx hst hk1
 go_upto_region 1 with (first | (refine wpList_store_part rfl 82 (.tmp 15) (.tmp 13) rfl gs (sth gl b s.note ++ Bt.mcs s.used s.n ++ [.map (some g1), .map (some g2)]) (Bt.mcs s.cused s.n) (Bt.mcs f1 s.n) [Value.bool s.dead] (by rw [List.length_append, List.length_append, Bt.mcs_length]; rfl) rfl HBX.out (by rw [Bt.mcs_length, Bt.mcs_length]) (Bt.infoMcs _ _) (Bt.mcs_one _ _) ?_; intro w3 hb3 hk3) | fail)
 have S3 := hHd (S1.out.turn hk3 { s with cused := f1 } rfl rfl rfl rfl S1.out.u HWF.out (HST.out.newCm (Bt.mcs_length _ _) hb3))
 have K3 := hHd ((K1.out.of_false (S := fun k => k = gs \/ k = g2)).trans (hk3.mono fun k _ e => .inl e))
 clear hb3 hk3
 have S4 := hHd (S3.out.still ((Kp.refl (fun _ => False) w3).drew))
 have YC := hHd (show w3.drew.cell? ⟨gs, 21, none⟩ = some (.map (some g2)) from S4.out.cells.2.2.2.2.1)
 have YU := hHd (show w3.drew.rangeAt gs 22 (Bt.mcs f1 s.n) from S4.out.cused)
 refine wp_region_held_drew (S := fun v => v.cell? ⟨gs, 21, none⟩ = some (.map (some g2)) /\ v.rangeAt gs 22 (Bt.mcs f1 s.n)) (by kernel_rfl) (⟨YC.out, YU.out⟩) (fun hHeld => ?_)
 refine tk 0 (h := ?_)
 refine tk 1 (h := ?_)
 refine tk 2 (h := ?_)
 refine tk 3 (v := ?_) (hy := ?_) (h := ?_)
 rotate_left
 ·intro v hSw
  have y := hSw.1
  go_simp
  with_reducible rfl
 refine tk 4 (h := ?_)
 refine tk 5 (h := ?_)
 refine tk 6 (h := ?_)
 refine tk 7 (hy := fun v hSw => exec_load_mid 82 (.tmp 22) rfl gs 22 rfl (Bt.mcs f1 s.n) _ hSw.2 Tryz.underlying82 rfl (Bt.infoMcs _ _)) (h := ?_)
 refine rd 8 (h := fun K hK => ?_)
 go_simp
 refine (Bt.bytes_any f1 s.n _ HWF.out).mono ?_
 rintro e w5 ⟨gn, rfl, hnb, hk5⟩
 have NB := hHd hnb
 have K5 := hHd (((Kp.refl (fun _ => False) w3).drew).trans hk5)
 have S5 := hHd (S3.out.still K5.out)
 have YC5 := hHd (show w5.cell? ⟨gs, 21, none⟩ = some (.map (some g2)) from S5.out.cells.2.2.2.2.1)
 have YU5 := hHd (show w5.rangeAt gs 22 (Bt.mcs f1 s.n) from S5.out.cused)
 have hat : ∀ W, (Instr.arrayAt 107 (.slice (some ⟨gn, 0, none⟩) 512 512)).run Tryz.prog W = .ok (.pointer (some ⟨gn, 0, none⟩)) W := fun W => run_arrayAt W 107 _ 512 _ 512 512 Tryz.underlying107 (Nat.le_refl _)
 clear hnb hk5
 go_wp2_with fail
 refine hK.out _ _ (⟨YC5.out, YU5.out⟩) (fun hHeld1 => ?_)
 clear hK K
 try simp only [Act.put, sIa, sI0, sI1]
 refine tk 9 (h := ?_)
 refine rd 10 (h := fun K hK => ?_)
 rw [if_pos (by rfl)]
 refine wp_load_mid 107 (.tmp 25) rfl gn 0 rfl (bcs (Bt.pageL f1)) _ (Box.range' NB.out.2) Tryz.underlying107 rfl (by rw [bcs_length, Bt.pageL_length]; exact infoPg) ?_
 refine hK.out _ _ (⟨YC5.out, YU5.out⟩) (fun hHeld2 => ?_)
 clear hK K
 try simp only [Act.put, sIa, sI0, sI1]
 refine rd 11 (h := fun K hK => ?_)
 rw [if_pos (by rfl)]
 refine wp_putPg (.tmp 19) (.const (.int .i64 0)) (.tmp 26) rfl rfl S5.out.chg 0 HN0.out (Bt.pageL f1) (Bt.pageL_length f1) rfl rfl ?_
 intro w6 hm6 hk6
 have S6 := hHd (S5.out.setChg hk6 hm6)
 have YC6 := hHd (show w6.cell? ⟨gs, 21, none⟩ = some (.map (some g2)) from S6.out.cells.2.2.2.2.1)
 have YU6 := hHd (show w6.rangeAt gs 22 (Bt.mcs f1 s.n) from S6.out.cused)
 have K6 := hHd hk6
 clear hm6 hk6
 refine hK.out _ _ (⟨YC6.out, YU6.out⟩) (fun hHeld3 => ?_)
 clear hK K
 try simp only [Act.put]
 refine wpAnyH_done (by kernel_rfl) ?_ _
 clear hHeld
 go_wp2_with fail
 refine bodyPost_end (v := .tuple #[]) (by kernel_rfl) rfl ?_
 exact ⟨rfl, S6.out, (K3.out.trans K5.out.of_false).trans (K6.out.mono fun k _ e => .inr e)⟩
def Sm.freeS (s : Sm) (d : Dm) (i : Int) : Sm × Int :=
 if hasP s.n i && freeP s i then if s.pw d then (({ s with dead := false } : Sm).useS i false, 0) else ({ s with dead := true }, 4) else (s, 2)
theorem pfrees_any {F : Nat -> Prop} {w : World} {gs gl b g1 g2 : Nat} {s : Sm} {d : Dm} (h : Sto F w gs gl b g1 g2 s d) (h0 : 0 < s.n) (i : Int) :
  Calls Tryz.prog 23 #[.pointer (some ⟨gs, 0, none⟩), .int .i64 i] w fun e w' => e = .returned (.int .i64 (s.freeS d i).2) /\ Sto F w' gs gl b g1 g2 (s.freeS d i).1 d /\ Kp F w w' := by
 have H := hHd h
 have HN0 := hHd h0
 clear h h0
 go_enter Tryz.func23, Tryz.ntmps23
 go_wp2_with fail
 refine (phasv_any gs i w).mono ?_
 rintro e w1 ⟨ga, gb, rfl, ha, hb, hk1⟩
 have BA := hHd ha
 have BB := hHd hb
 have K1 := hHd hk1
 clear ha hb hk1
 go_wp2_with fail
 refine (pfreev_any gs i w1).mono ?_
 rintro e w2 ⟨gc, ge, rfl, hc, he, hk2⟩
 have BC := hHd hc
 have BE := hHd he
 have K2 := hHd hk2
 clear hc he hk2
 go_wp2_with fail
 obtain ⟨x1, hx1⟩ : ∃ x1 : Int, (if hasP s.n i then 0 else 2) = x1 := ⟨_, rfl⟩
 obtain ⟨x2, hx2⟩ : ∃ x2 : Int, (if freeP s i then 0 else 2) = x2 := ⟨_, rfl⟩
 obtain ⟨W3, hW3, b3, k3⟩ : ∃ W3, W3 = w2.alloc (.cells (([(Stp.mk 63 #[.pointer (some ⟨gs, 0, none⟩)] #[]), (Stp.mk 117 #[] #[.pointer (some ⟨gb, 0, none⟩), .pointer (some ⟨ga, 0, none⟩)]), (Stp.mk 124 #[] #[.pointer (some ⟨ge, 0, none⟩), .pointer (some ⟨gc, 0, none⟩)])] ++ [pst gs]).map Stp.v).toArray 104) /\ Box W3 w2.heap.size 104 (([(Stp.mk 63 #[.pointer (some ⟨gs, 0, none⟩)] #[]), (Stp.mk 117 #[] #[.pointer (some ⟨gb, 0, none⟩), .pointer (some ⟨ga, 0, none⟩)]), (Stp.mk 124 #[] #[.pointer (some ⟨ge, 0, none⟩), .pointer (some ⟨gc, 0, none⟩)])] ++ [pst gs]).map Stp.v).toArray /\ Kp (fun _ => False) w2 W3 := ⟨_, rfl, Box.new w2 _ _, (Kp.refl _ w2).alloc _⟩
 have K3 := hHd ((K1.out.trans K2.out).trans k3)
 have S3 := hHd (H.out.still K3.out)
 have hcall : ∀ W, W = W3 -> Calls Tryz.prog 42 #[.slice (some ⟨w2.heap.size, 0, none⟩) 4 4] W _ := fun W e => by
  rw [e]
  exact check_order S3.out [(Stp.mk 63 #[.pointer (some ⟨gs, 0, none⟩)] #[]), (Stp.mk 117 #[] #[.pointer (some ⟨gb, 0, none⟩), .pointer (some ⟨ga, 0, none⟩)]), (Stp.mk 124 #[] #[.pointer (some ⟨ge, 0, none⟩), .pointer (some ⟨gc, 0, none⟩)])] [0, x1, x2] rfl (show 3 <= 90 by decide) b3 (fun st hst => by
   simp only [List.mem_cons, List.not_mem_nil, or_false] at hst
   rcases hst with rfl | rfl | rfl
   ·exact enters_of Tryz.func63 (by kernel_rfl) rfl
   ·exact enters_of Tryz.func117 (by kernel_rfl) rfl
   ·exact enters_of Tryz.func124 (by kernel_rfl) rfl) (fun j st c V hj hc hk => by
   match j, hj, hc with
   |0, hj, hc =>
    injection hj with hj
    injection hc with hc
    subst hj
    subst hc
    exact (pis_any gs V).mono fun e w' ⟨he, hw⟩ => ⟨he, hw ▸ Kp.refl _ _⟩
   |1, hj, hc =>
    injection hj with hj
    injection hc with hc
    subst hj
    subst hc
    rw [<- hx1]
    exact phas_any (S3.out.still hk) (((BB.out.kp K2.out (fun e => e)).kp k3 (fun e => e)).kp hk (fun e => e)) (((BA.out.kp K2.out (fun e => e)).kp k3 (fun e => e)).kp hk (fun e => e))
   |2, hj, hc =>
    injection hj with hj
    injection hc with hc
    subst hj
    subst hc
    rw [<- hx2]
    exact pfree_any (S3.out.still hk) ((BE.out.kp k3 (fun e => e)).kp hk (fun e => e)) ((BC.out.kp k3 (fun e => e)).kp hk (fun e => e))
   |j + 3, hj, hc => simp at hj) 4
 refine (hcall _ hW3.symm).mono ?_
 clear hcall hW3 b3
 rintro e V (⟨hz, rfl, hs, hk⟩ | ⟨hz, rfl, hk⟩)
 ·have hc1 : hasP s.n i = true := by
   rcases h : hasP s.n i with _ | _
   ·rw [h] at hx1
    rw [<- hx1] at hz
    simp [fst0] at hz
   ·rfl
  have hc2 : freeP s i = true := by
   rcases h : freeP s i with _ | _
   ·rw [h] at hx2
    rw [<- hx2] at hz
    rw [hc1] at hx1
    rw [<- hx1] at hz
    simp [fst0] at hz
   ·rfl
  have HC1 := hHd hc1
  have HC2 := hHd hc2
  have K4 := hHd ((K3.out.of_false (S := F)).trans (hk.mono fun q _ e => by rw [show q = gs from e]; exact H.out.fs))
  clear hz hx1 hx2 hc1 hc2 k3
  rcases hp : s.pw d with _ | _
  ·rw [hp] at hs
   have HP := hHd hp
   have S4 := hHd hs
   clear hp hs hk
   go_wp2_with fail
   go_ret
   unfold Sm.freeS
   rw [HC1.out, HC2.out, HP.out]
   exact ⟨rfl, S4.out, K4.out⟩
  ·rw [hp] at hs
   have HP := hHd hp
   have S4 := hHd hs
   clear hp hs hk
   go_wp2_with fail
   refine (use_any S4.out HN0.out i false).mono ?_
   rintro e w5 ⟨rfl, hs5, hk5⟩
   have S5 := hHd hs5
   have K5 := hHd hk5
   clear hs5 hk5
   go_wp2_with fail
   go_ret
   unfold Sm.freeS
   rw [HC1.out, HC2.out, HP.out]
   exact ⟨rfl, S5.out, K4.out.trans (K5.out.mono fun q _ e => by
    rcases e with e | e
    ·rw [e]; exact H.out.fs
    ·rw [e]; exact H.out.f2)⟩
 ·have hf : fst0 [0, x1, x2] = 2 /\ (hasP s.n i && freeP s i) = false := by
   rw [<- hx1, <- hx2] at hz ⊢
   revert hz
   rcases hasP s.n i <;> rcases freeP s i <;> simp [fst0]
  have HC := hHd hf.2
  rw [hf.1]
  have K4 := hHd (K3.out.trans hk)
  clear hf hz hx1 hx2 hk k3
  go_wp2_with fail
  go_ret
  unfold Sm.freeS
  rw [HC.out]
  exact ⟨rfl, H.out.still K4.out, K4.out.of_false⟩
end Go.Proofs.YtepaeliamhjgiaaGreatDoor
