/- The law of pages, part 34 of 55: PgOpenS PgHear PgMay. -/
import Derived.Test.YtepaeliamhjgiaaGreatDoorMu1
import Derived.Test.YtepaeliamhjgiaaGreatDoorMu33
set_option maxHeartbeats 16000000
set_option maxRecDepth 100000
namespace Go.Proofs.YtepaeliamhjgiaaGreatDoor
open Go.RowKit Go.Maps Go.Shelf
def zz17 : List Value := [Value.int .u64 0, Value.int .u64 0, Value.int .u64 0, Value.int .u64 0, Value.int .u64 0, Value.int .u64 0, Value.int .u64 0, Value.int .u64 0, Value.int .u64 0, Value.int .u64 0, Value.int .u64 0, Value.int .u64 0, Value.int .u64 0, Value.int .u64 0, Value.int .u64 0, Value.int .u64 0, Value.int .i64 0]
theorem infoCh : (Tryz.prog.info? 84).map (·.size) = some 18 := by kernel_rfl
theorem pabort_stb {W : World} {gs gl b n : Nat} {note : List UInt8} {f : Nat -> Bool} {vl vc : Value} {cm : List Value} {dead : Bool} (h : Stb W gs gl b note (Bt.mcs f n) vl vc cm dead) (hn : n <= 1024) :
  Calls Tryz.prog 21 #[.pointer (some ⟨gs, 0, none⟩)] W fun e W' => e = .returned (.tuple #[]) /\ ∃ g2, W.heap.size <= g2 /\ Stb W' gs gl b note (Bt.mcs f n) vl (.map (some g2)) (Bt.mcs f n) dead /\ Pgm W' g2 n bnone /\ Kp (fun k => k = gs) W W' := by
 have hmm := @run_makeMap Tryz.prog
 have H := hHd h
 have HN := hHd hn
 have hl17 := Bt.mcs_length f n
 have hone := Bt.mcs_one f n
 have h0 : Stb (W.alloc (.map #[] 0)) gs gl b note (Bt.mcs f n) vl vc cm dead := ⟨h.1, h.2.1, h.2.2.alloc _⟩
 have hru := h0.rum
 have hbx0 := h0.2.2
 rw [stc_ch] at hbx0
 obtain ⟨a0, a1, a2, a3, a4, a5, a6, a7, a8, a9, b0, b1, b2, b3, b4, b5, h17⟩ := mcs17 f n
 have H17 := hHd h17
 rw [h17] at hone hru
 have HU := hHd hru
 have HONE := hHd hone
 have HBX := hHd hbx0
 have HLC := hHd h.2.1
 clear h h0 hn hl17 hru hbx0 hone h17
 go_enter Tryz.func21, Tryz.ntmps21
 go_wp2_with (first | (refine wpList_load_mid rfl 82 (.tmp 8) rfl gs 3 rfl [a0, a1, a2, a3, a4, a5, a6, a7, a8, a9, b0, b1, b2, b3, b4, b5, .int .i64 (n : Int)] _ HU.out Tryz.underlying82 rfl (by kernel_rfl) ?_) | (refine wpList_store_part rfl 84 (.tmp 12) (.tmp 10) rfl gs (sth gl b note ++ Bt.mcs f n ++ [vl]) (vc :: cm) (.map (some W.heap.size) :: [a0, a1, a2, a3, a4, a5, a6, a7, a8, a9, b0, b1, b2, b3, b4, b5, .int .i64 (n : Int)]) [Value.bool dead] rfl rfl HBX.out (by simp [HLC.out]) infoCh (by intro v hv; rcases List.mem_cons.1 hv with hv | hv; (subst hv; rfl); exact HONE.out v hv) ?_; intro W' hb' hk') | fail)
 rw [<- H17.out] at hb'
 refine bodyPost_end (v := .tuple #[]) (by kernel_rfl) rfl ?_
 exact ⟨rfl, W.heap.size, Nat.le_refl _, H.out.newCh (Bt.mcs_length _ _) hb', (Pgm.made W HN.out).kp hk' (fun e => by have := H.out.2.2.lt; have e : W.heap.size = gs := e; omega), ((Kp.refl _ W).alloc _).trans hk'⟩
theorem popen_any {F : Nat -> Prop} {w : World} {b n L : Nat} {d : Dm} {l : Lm} {note l0 P : List UInt8} {bs : List Bm} (hF : ∀ k, w.heap.size <= k -> F k) (hFT : ¬ F 1) (hD : Dsk F w b d) (ht : Tbl w) (hfb : ∀ h a, d.heads = some (h, a) -> h.f + 513 < 18446744073709551616)
  (ho : d.openS = (some (l, bs.map fun m => m.text n), 0)) (hg : Og d l n L note l0 P bs) :
  Calls Tryz.prog 11 #[.pointer (some ⟨b, 0, none⟩)] w fun e W' => Kp F w W' /\ (((d.openP l n note bs (Bt.bitL P)).2.2 = 0 /\ ∃ gs gl g1 g2 l1, (d.openP l n note bs (Bt.bitL P)).1 = some ⟨l1, n, note, Bt.bitL P, bnone, bnone, Bt.bitL P, false⟩ /\ e = .returned (.tuple #[.pointer (some ⟨gs, 0, none⟩), .int .i64 0]) /\
   Sto F W' gs gl b g1 g2 ⟨l1, n, note, Bt.bitL P, bnone, bnone, Bt.bitL P, false⟩ (d.openP l n note bs (Bt.bitL P)).2.1) \/ ((d.openP l n note bs (Bt.bitL P)).2.2 ≠ 0 /\ e = .returned (.tuple #[.pointer none, .int .i64 (d.openP l n note bs (Bt.bitL P)).2.2]) /\ Dsk F W' b (d.openP l n note bs (Bt.bitL P)).2.1)) := by
 have hmm := @run_makeMap Tryz.prog
 have HF := hHd hF
 have HFT := hHd hFT
 have DD := hHd hD
 have HT := hHd ht
 have HG := hHd hg
 have hop := open_any hD ht hfb
 rw [ho] at hop
 have HOP := hHd hop
 clear hF hFT hD ht hfb ho hg hop
 go_enter Tryz.func11, Tryz.ntmps11
 go_wp2_with fail
 refine HOP.out.mono ?_
 rintro e w1 ⟨gl, v, rfl, hlg, hrow, hgl, hk1⟩
 rw [List.length_map] at hrow
 obtain ⟨A, c, rfl⟩ := own_shape3 hrow
 have LG1 := hHd hlg
 have RT1 := hHd (RdR.of_own hrow)
 have K1 := hHd hk1
 have HGL := hHd hgl
 clear hlg hrow hgl hk1
 go_wp2_with fail
 clear hmm
 obtain ⟨W5, hW5, hm5, hs5, ho5, hr5, hk5⟩ : ∃ W5, W5 = (((w1.alloc (.map #[] 0)).alloc (.cells (stc gl b [] zz17 (.map (some w1.heap.size)) (.map none) zz17 false).toArray 86)).alloc (.cells #[.pointer (some ⟨w1.heap.size + 1, 0, none⟩), .slice A bs.length c, .slice none 0 0] 89)).alloc (.cells #[Stp.v ⟨43, #[.pointer (some ⟨w1.heap.size + 1 + 1, 0, none⟩)], #[]⟩, Stp.v ⟨44, #[.pointer (some ⟨w1.heap.size + 1 + 1, 0, none⟩)], #[]⟩, Stp.v ⟨45, #[.pointer (some ⟨w1.heap.size + 1 + 1, 0, none⟩)], #[]⟩, Stp.v ⟨46, #[.pointer (some ⟨w1.heap.size + 1 + 1, 0, none⟩)], #[]⟩, Stp.v ⟨47, #[.pointer (some ⟨b, 0, none⟩)], #[]⟩, Stp.v ⟨48, #[.pointer (some ⟨gl, 0, none⟩)], #[]⟩] 104) /\ Pgm W5 w1.heap.size n bnone /\ Box W5 (w1.heap.size + 1) 86 (stc gl b [] zz17 (.map (some w1.heap.size)) (.map none) zz17 false).toArray /\
   Box W5 (w1.heap.size + 1 + 1) 89 #[.pointer (some ⟨w1.heap.size + 1, 0, none⟩), .slice A bs.length c, .slice none 0 0] /\ Box W5 (w1.heap.size + 1 + 1 + 1) 104 #[Stp.v ⟨43, #[.pointer (some ⟨w1.heap.size + 1 + 1, 0, none⟩)], #[]⟩, Stp.v ⟨44, #[.pointer (some ⟨w1.heap.size + 1 + 1, 0, none⟩)], #[]⟩, Stp.v ⟨45, #[.pointer (some ⟨w1.heap.size + 1 + 1, 0, none⟩)], #[]⟩, Stp.v ⟨46, #[.pointer (some ⟨w1.heap.size + 1 + 1, 0, none⟩)], #[]⟩, Stp.v ⟨47, #[.pointer (some ⟨b, 0, none⟩)], #[]⟩, Stp.v ⟨48, #[.pointer (some ⟨gl, 0, none⟩)], #[]⟩] /\ Kp (fun _ => False) w1 W5 := by
  refine ⟨_, rfl, ?_, ?_, ?_, ?_, ((((Kp.refl _ w1).alloc _).alloc _).alloc _).alloc _⟩
  ·exact (Pgm.made w1 HG.out.p2).still ((((Kp.refl _ _).alloc _).alloc _).alloc _)
  ·have := Box.new (w1.alloc (.map #[] 0)) 86 (stc gl b [] zz17 (.map (some w1.heap.size)) (.map none) zz17 false).toArray
   rw [World.size_alloc] at this
   exact (this.alloc _).alloc _
  ·have := Box.new ((w1.alloc (.map #[] 0)).alloc (.cells (stc gl b [] zz17 (.map (some w1.heap.size)) (.map none) zz17 false).toArray 86)) 89 #[.pointer (some ⟨w1.heap.size + 1, 0, none⟩), .slice A bs.length c, .slice none 0 0]
   rw [World.size_alloc, World.size_alloc] at this
   exact this.alloc _
  ·have := Box.new (((w1.alloc (.map #[] 0)).alloc (.cells (stc gl b [] zz17 (.map (some w1.heap.size)) (.map none) zz17 false).toArray 86)).alloc (.cells #[.pointer (some ⟨w1.heap.size + 1, 0, none⟩), .slice A bs.length c, .slice none 0 0] 89)) 104 #[Stp.v ⟨43, #[.pointer (some ⟨w1.heap.size + 1 + 1, 0, none⟩)], #[]⟩, Stp.v ⟨44, #[.pointer (some ⟨w1.heap.size + 1 + 1, 0, none⟩)], #[]⟩, Stp.v ⟨45, #[.pointer (some ⟨w1.heap.size + 1 + 1, 0, none⟩)], #[]⟩, Stp.v ⟨46, #[.pointer (some ⟨w1.heap.size + 1 + 1, 0, none⟩)], #[]⟩, Stp.v ⟨47, #[.pointer (some ⟨b, 0, none⟩)], #[]⟩, Stp.v ⟨48, #[.pointer (some ⟨gl, 0, none⟩)], #[]⟩]
   rwa [World.size_alloc, World.size_alloc, World.size_alloc] at this
 obtain ⟨F0, hd0, hf0⟩ := DD.out.fit
 have hlg1 := LG1.out.lt
 have hsz1 := K1.out.size
 have hsz5 := hr5.lt
 have K5 := K1.out.trans hk5
 have hT := HT.out
 have hth : 1 < w.heap.size := World.block_lt_of_cell? w ⟨1, 0, none⟩ (hT 0 (by omega))
 have hgl := HGL.out
 have hcall : ∀ W, W = W5 -> Calls Tryz.prog 42 #[.slice (some ⟨w1.heap.size + 1 + 1 + 1, 0, none⟩) 6 6] W _ := fun W e => by
  rw [e]
  exact open_order HG.out ⟨hr5, ho5, ⟨rfl, rfl, hs5⟩, LG1.out.kp hk5 (fun e => e), hT.kp K5 (fun e => e), Kp.refl _ _⟩ (hd0.still K5) ((RT1.out.kp hk5 (fun _ _ _ _ e => e))) (fun h => by have := (hf0 _ h).2; omega) (fun h => by have := (hf0 _ h).2; omega) (fun h => by have := (hf0 _ h).2; omega) (fun h => by have := (hf0 _ h).2; omega) (fun h => HFT.out (hf0 _ h).1) (by omega) ⟨by omega, by omega, by omega⟩ (fun k h => by have := (hf0 _ h).2; omega) 6 (Bt.bitL P)
 refine (hcall _ hW5.symm).mono ?_
 clear hcall hW5
 rintro e V ⟨hd, rfl, hk, hst⟩
 have hkF : Kp F w V := (K5.of_false (S := F)).trans (hk.mono fun k _ e => by
  rcases e with (e | e) | e | e | e
  ·exact (hf0 k e).1
  ·exact HF.out k (by have := K5.size; omega)
  ·exact HF.out k (by omega)
  ·exact HF.out k (by omega)
  ·exact HF.out k (by omega))
 have hm6 : Pgm V w1.heap.size n bnone := hm5.kp hk (fun e => by
  rcases e with (e | e) | e | e | e
  ·have := (hf0 _ e).2; omega
  ·omega
  ·omega
  ·omega
  ·omega)
 obtain ⟨F1, hd1, hf1⟩ := hd.fit
 have hfF : ∀ k, F1 k -> F k /\ k < V.heap.size /\ (F0 k \/ W5.heap.size <= k) := fun k h => by
  obtain ⟨e1, e2⟩ := hf1 k h
  exact ⟨e1.elim (fun h => (hf0 k h).1) (fun h => HF.out k (by have := K5.size; omega)), e2, e1⟩
 have hff0 : ∀ k, F0 k -> k < w.heap.size := fun k h => (hf0 k h).2
 obtain ⟨R, hR⟩ : ∃ R, d.openP l n note bs (Bt.bitL P) = R := ⟨_, rfl⟩
 rw [hR] at hd hd1 hst ⊢
 obtain ⟨ro, rd, rc⟩ := R
 have HR := hHd hR
 dsimp only at hd hd1 hst ⊢
 obtain ⟨g1, hg1⟩ : ∃ g1, w1.heap.size = g1 := ⟨_, rfl⟩
 rw [hg1] at hst hm6 hsz5 hlg1 hsz1 ⊢
 obtain ⟨gs, hgs⟩ : ∃ gs, g1 + 1 = gs := ⟨_, rfl⟩
 rw [hgs] at hst hsz5 ⊢
 obtain ⟨go, hgo⟩ : ∃ go, gs + 1 = go := ⟨_, rfl⟩
 rw [hgo] at hst hsz5 ⊢
 have HKF := hHd hkF
 have HM6 := hHd hm6
 have HD1 := hHd hd1
 have HFF := hHd hfF
 have HF0 := hHd hff0
 have HST := hHd hst
 have HDF := hHd (hd1.mono (F' := F) fun k h => (hfF k h).1)
 have HNUM := hHd (show w.heap.size <= g1 /\ gl < g1 /\ w.heap.size <= gl /\ g1 + 1 = gs /\ gs + 1 = go /\ go + 1 < W5.heap.size from ⟨hsz1, hlg1, hgl, hgs, hgo, hsz5⟩)
 have HWV := hHd hk.size
 clear hR hm5 hs5 ho5 hr5 hk5 hd0 hf0 hlg1 hsz1 hsz5 K5 hT hth hgl hd hk hst hkF hm6 hd1 hf1 hfF hff0 hg1 hgs hgo
 by_cases he : rc = 0
 ·subst he
  obtain ⟨l1, hro, hs6, hb6, ho6⟩ := HST.out rfl
  have S6 := hHd hs6
  have B6 := hHd hb6
  have O6 := hHd ho6
  have HRO := hHd hro
  have y := ho6
  clear hs6 hb6 ho6 hro
  go_wp2_with fail
  refine (pabort_stb S6.out HG.out.p2).mono ?_
  rintro e W7 ⟨rfl, g2, hg2, hs7, hm7, hk7⟩
  have hne : go ≠ gs := by have := HNUM.out; omega
  have y7 := (hk7.cell (p := ⟨go, 0, none⟩) (World.block_lt_of_cell? _ _ O6.out) hne).trans O6.out
  have S7 := hHd hs7
  have M7 := hHd hm7
  have K7 := hHd hk7
  have HG2 := hHd hg2
  clear hg2 hs7 hm7 hk7 y hne
  go_wp2_with fail
  go_ret2
  rw [HR.out]
  refine ⟨HKF.out.trans (K7.out.mono fun k _ e => ?_), .inl ⟨rfl, gs, gl, g1, g2, l1, HRO.out, rfl, ?_⟩⟩
  ·rw [show k = gs from e]; exact HF.out gs (by have := HNUM.out; omega)
  ·have hn := HNUM.out
   have hv := HWV.out
   have h2 := HG2.out
   refine ⟨HF.out _ (by omega), HF.out _ (by omega), HF.out _ (by omega), HF.out _ (by omega), by omega, S7.out.2.2, B6.out.kp K7.out (fun e => by have e : gl = gs := e; omega), HM6.out.kp K7.out (fun e => by have e : g1 = gs := e; omega), M7.out, ?_, ⟨HG.out.p2, HG.out.off⟩, ⟨HG.out.p2, HG.out.off⟩⟩
   refine (HD1.out.kp K7.out (fun k h e => ?_)).mono fun k h => ?_
   ·have e : k = gs := e
    rcases (HFF.out k h).2.2 with h | h
    ·have := HF0.out k h; omega
    ·omega
   ·obtain ⟨a1, a2, a3⟩ := HFF.out k h
    refine ⟨a1, fun e => ?_, by omega⟩
    rcases a3 with h | h
    ·have := HF0.out k h; omega
    ·omega
 ·have hne : (rc != 0) = true := by simpa using he
  have HNE := hHd he
  clear he
  go_wp2_with fail
  go_ret2
  rw [HR.out]
  exact ⟨HKF.out, .inr ⟨HNE.out, rfl, HDF.out⟩⟩
theorem popen_none {F : Nat -> Prop} {w : World} {b : Nat} {d : Dm} {c : Int} (hD : Dsk F w b d) (ht : Tbl w) (hfb : ∀ h a, d.heads = some (h, a) -> h.f + 513 < 18446744073709551616) (ho : d.openS = (none, c)) (hc : c ≠ 0) :
  Calls Tryz.prog 11 #[.pointer (some ⟨b, 0, none⟩)] w fun e W' => e = .returned (.tuple #[.pointer none, .int .i64 c]) /\ Kp (fun _ => False) w W' := by
 have hop := open_any hD ht hfb
 rw [ho] at hop
 have HOP := hHd hop
 have hne : (c != 0) = true := by simpa using hc
 clear hD ht hfb ho hop
 go_enter Tryz.func11, Tryz.ntmps11
 go_wp2_with fail
 refine HOP.out.mono ?_
 rintro e w1 ⟨rfl, hk1⟩
 have K1 := hHd hk1
 clear hk1
 go_wp2_with fail
 go_ret2
 exact ⟨rfl, K1.out⟩
theorem popen_nil (w : World) :
  Calls Tryz.prog 11 #[.pointer none] w fun e W' => e = .returned (.tuple #[.pointer none, .int .i64 1]) /\ Kp (fun _ => False) w W' := by
 go_enter Tryz.func11, Tryz.ntmps11
 go_wp2_with fail
 go_ret2
 exact ⟨rfl, Kp.refl _ w⟩
section
variable {F : Nat -> Prop} {w w' : World} {gs gl b g1 g2 : Nat} {s : Sm} {d : Dm}
theorem Sto.stb (h : Sto F w gs gl b g1 g2 s d) : Stb w gs gl b s.note (Bt.mcs s.used s.n) (.map (some g1)) (.map (some g2)) (Bt.mcs s.cused s.n) s.dead := ⟨Bt.mcs_length _ _, Bt.mcs_length _ _, h.box⟩
theorem Sto.g1ne (h : Sto F w gs gl b g1 g2 s d) : g1 ≠ gs /\ g2 ≠ gs /\ gl ≠ gs := ⟨fun e => h.late.not_cells (by have := h.box; rw [<- e] at this; exact this), fun e => h.chg.not_cells (by have := h.box; rw [<- e] at this; exact this), h.lg.type_ne h.box (by decide)⟩
theorem Sto.turn (h : Sto F w gs gl b g1 g2 s d) (hk : Kp (fun k => k = gs) w w') (s' : Sm) (hl : s'.l = s.l) (hn : s'.n = s.n) (hlt : s'.late = s.late) (hc : s'.chg = s.chg) (hu : Bt.Wf s'.used s'.n) (hcu : Bt.Wf s'.cused s'.n)
  (hb : Stb w' gs gl b s'.note (Bt.mcs s'.used s'.n) (.map (some g1)) (.map (some g2)) (Bt.mcs s'.cused s'.n) s'.dead) : Sto F w' gs gl b g1 g2 s' d := by
 obtain ⟨n1, n2, n3⟩ := h.g1ne
 refine ⟨h.fs, h.fl, h.f1, h.f2, h.ne, hb.2.2, ?_, ?_, ?_, h.dk.off h.box ⟨by decide, by decide, by decide⟩ hk, hu, hcu⟩
 ·rw [hl]; exact h.lg.kp hk n3
 ·rw [hn, hlt]; exact h.late.kp hk n1
 ·rw [hn, hc]; exact h.chg.kp hk n2
theorem Sto.setDead (h : Sto F w gs gl b g1 g2 s d) (x : Bool) : Sto F (w.setCell ⟨gs, 39, none⟩ (.bool x)) gs gl b g1 g2 { s with dead := x } d :=
 h.turn (Kp.one w gs 39 (.bool x)) _ rfl rfl rfl rfl h.u h.cu (h.stb.setDead x)
theorem phear_any (h : Sto F w gs gl b g1 g2 s d) (c : Int) :
  Calls Tryz.prog 67 #[.pointer (some ⟨gs, 0, none⟩), .int .i64 c] w fun e w' => e = .returned (.int .i64 c) /\ Sto F w' gs gl b g1 g2 { s with dead := s.dead || c == 4 } d /\ Kp (fun k => k = gs) w w' := by
 have y := h.cells.2.2.2.2.2
 have yf := h.stb.free 39
 obtain ⟨x, hx⟩ : ∃ x, (s.dead || c == 4) = x := ⟨_, rfl⟩
 have hs := h.setDead x
 have hk := Kp.one w gs 39 (.bool x)
 rw [hx]
 have HS := hHd hs
 have HK := hHd hk
 clear h hs hk
 rcases hd : s.dead with _ | _
 ·rw [hd, Bool.false_or] at hx
  rw [hd] at y
  have hx2 : decide (c = 4) = x := by rw [<- hx]; rfl
  clear hd hx
  subst hx2
  go_enter Tryz.func67, Tryz.ntmps67
  go_wp2_with fail
  go_ret
  exact ⟨rfl, HS.out, HK.out⟩
 ·rw [hd, Bool.true_or] at hx
  rw [hd] at y
  clear hd
  subst hx
  go_enter Tryz.func67, Tryz.ntmps67
  go_wp2_with fail
  go_ret
  exact ⟨rfl, HS.out, HK.out⟩
def Sm.pw (s : Sm) (d : Dm) : Bool := !s.dead && d.power
theorem ppower_any (h : Sto F w gs gl b g1 g2 s d) :
  Calls Tryz.prog 65 #[.pointer (some ⟨gs, 0, none⟩)] w fun e w' => e = .returned (.int .i64 (if s.pw d then 0 else 4)) /\ Sto F w' gs gl b g1 g2 { s with dead := !s.pw d } d /\ Kp (fun k => k = gs) w w' := by
 have y := h.cells.2.2.2.2.2
 have y1 := h.cells.2.1
 have H := hHd h
 have HA := hHd (alive_any h.dk)
 clear h
 rcases hd : s.dead with _ | _
 ·rw [hd] at y
  have hpw : s.pw d = d.power := by unfold Sm.pw; rw [hd]; rfl
  have HD := hHd hd
  rw [hpw]
  clear hd hpw
  rcases hp : d.power with _ | _
  all_goals
   rw [hp] at HA
   clear hp
   go_enter Tryz.func65, Tryz.ntmps65
   go_wp2_with fail
   refine HA.out.mono ?_
   rintro e w1 ⟨rfl, rfl⟩
   go_wp2_with fail
   refine (punless_any _ _ _).mono ?_
   rintro e w1 ⟨rfl, rfl⟩
   go_wp2_with fail
   refine (phear_any H.out _).mono ?_
   rintro e w1 ⟨rfl, hs, hk⟩
   have HS := hHd hs
   have HK := hHd hk
   clear hs hk
   go_wp2_with fail
   go_ret
   refine ⟨rfl, ?_, HK.out⟩
   have := HS.out
   rw [HD.out] at this
   exact this
 ·rw [hd] at y
  have hpw : s.pw d = false := by unfold Sm.pw; rw [hd]; rfl
  have HD := hHd hd
  rw [hpw]
  clear hd hpw
  go_enter Tryz.func65, Tryz.ntmps65
  go_wp2_with fail
  refine (punless_any _ _ _).mono ?_
  rintro e w1 ⟨rfl, rfl⟩
  go_wp2_with fail
  refine (phear_any H.out _).mono ?_
  rintro e w1 ⟨rfl, hs, hk⟩
  have HS := hHd hs
  have HK := hHd hk
  clear hs hk
  go_wp2_with fail
  go_ret
  refine ⟨rfl, ?_, HK.out⟩
  have := HS.out
  rw [HD.out] at this
  exact this
end
section
variable {F : Nat → Prop} {w w' : World} {gs gl b g1 g2 gi gp gb : Nat} {s : Sm} {d : Dm} {i : Int}
def hasP (n : Nat) (i : Int) : Bool := decide (0 ≤ i) && decide (i < (n : Int))
theorem phas_any (h : Sto F w gs gl b g1 g2 s d) (hi : Box w gi 3 #[.int .i64 i]) (hp : Box w gp 31 #[.pointer (some ⟨gs, 0, none⟩)]) :
    Calls Tryz.prog 117 #[.pointer (some ⟨gi, 0, none⟩), .pointer (some ⟨gp, 0, none⟩)] w fun e w' => e = .returned (.int .i64 (if hasP s.n i then 0 else 2)) ∧ Kp (fun _ => False) w w' := by
  have HW := Lib.hid h
  have HD := Lib.hid (h.still ((Kp.refl (fun _ => False) w).drew))
  have CI := Lib.hid (show w.drew.cell? ⟨gi, 0, none⟩ = some (.int .i64 i) from hi.cell 0)
  have CP := Lib.hid (show w.drew.cell? ⟨gp, 0, none⟩ = some (.pointer (some ⟨gs, 0, none⟩)) from hp.cell 0)
  unfold hasP
  clear h hi hp
  rcases h1 : decide (0 ≤ i) with _ | _
  · rw [Bool.false_and]
    have hge : ¬ 0 ≤ i := by simpa using h1
    go_enter Tryz.func117, Tryz.ntmps117
    go_upto_region 1 with fail
    refine wp_region_held_drew (S := fun v => v.cell? ⟨gi, 0, none⟩ = some (.int .i64 i) ∧ v.cell? ⟨gp, 0, none⟩ = some (.pointer (some ⟨gs, 0, none⟩))) (by kernel_rfl) (⟨CI.out, CP.out⟩) (fun hHeld => ?_)
    refine tk 0 (v := ?_) (hy := ?_) (h := ?_)
    rotate_left
    · intro v hSw
      have y := hSw.1
      go_simp
      with_reducible rfl
    refine tk 1 (h := ?_)
    refine tk 2 (h := ?_)
    refine sk 3 (h := ?_)
    refine sk 4 (h := ?_)
    refine sk 5 (h := ?_)
    refine sk 6 (h := ?_)
    refine tk 7 (h := ?_)
    refine rd 8 (h := fun K hK => ?_)
    go_simp
    refine (punless_any false 2 _).mono ?_
    rintro e w9 ⟨rfl, rfl⟩
    go_wp2_with fail
    refine hK.out _ _ (⟨CI.out, CP.out⟩) (fun hHeld1 => ?_)
    clear hK K
    try simp only [Act.put, List.setIfInBounds_toArray, List.set_cons_zero, List.set_cons_succ]
    refine tk 9 (h := ?_)
    refine wpAnyH_done (by kernel_rfl) ?_ _
    clear hHeld
    go_wp2_with fail
    go_ret
    exact ⟨rfl, (Kp.refl _ w).drew⟩
  rcases h2 : decide (i < (s.n : Int)) with _ | _
  · rw [Bool.and_false]
    have hge : 0 ≤ i := by simpa using h1
    have hlt : ¬ i < (s.n : Int) := by simpa using h2
    go_enter Tryz.func117, Tryz.ntmps117
    go_upto_region 1 with fail
    refine wp_region_held_drew (S := fun v => v.cell? ⟨gi, 0, none⟩ = some (.int .i64 i) ∧ v.cell? ⟨gp, 0, none⟩ = some (.pointer (some ⟨gs, 0, none⟩))) (by kernel_rfl) (⟨CI.out, CP.out⟩) (fun hHeld => ?_)
    refine tk 0 (v := ?_) (hy := ?_) (h := ?_)
    rotate_left
    · intro v hSw
      have y := hSw.1
      go_simp
      with_reducible rfl
    refine tk 1 (h := ?_)
    refine tk 2 (h := ?_)
    refine tk 3 (v := ?_) (hy := ?_) (h := ?_)
    rotate_left
    · intro v hSw
      have y := hSw.1
      go_simp
      with_reducible rfl
    refine tk 4 (v := ?_) (hy := ?_) (h := ?_)
    rotate_left
    · intro v hSw
      have y := hSw.2
      go_simp
      with_reducible rfl
    refine rd 5 (h := fun K hK => ?_)
    go_simp
    refine (ppages_any HD.out).mono ?_
    rintro e w9 ⟨rfl, hk9⟩
    have CI9 := Lib.hid ((hk9.cell (p := ⟨gi, 0, none⟩) (World.block_lt_of_cell? _ _ CI.out) (fun e => e)).trans CI.out)
    have CP9 := Lib.hid ((hk9.cell (p := ⟨gp, 0, none⟩) (World.block_lt_of_cell? _ _ CP.out) (fun e => e)).trans CP.out)
    have K9 := Lib.hid (((Kp.refl (fun _ => False) w).drew).trans hk9)
    clear hk9
    go_wp2_with fail
    refine hK.out _ _ (⟨CI9.out, CP9.out⟩) (fun hHeld2 => ?_)
    clear hK K
    try simp only [Act.put, List.setIfInBounds_toArray, List.set_cons_zero, List.set_cons_succ]
    refine tk 6 (h := ?_)
    refine tk 7 (h := ?_)
    refine rd 8 (h := fun K hK => ?_)
    go_simp
    refine (punless_any false 2 _).mono ?_
    rintro e w9 ⟨rfl, rfl⟩
    go_wp2_with fail
    refine hK.out _ _ (⟨CI9.out, CP9.out⟩) (fun hHeld3 => ?_)
    clear hK K
    try simp only [Act.put, List.setIfInBounds_toArray, List.set_cons_zero, List.set_cons_succ]
    refine tk 9 (h := ?_)
    refine wpAnyH_done (by kernel_rfl) ?_ _
    clear hHeld
    go_wp2_with fail
    go_ret
    exact ⟨rfl, K9.out⟩
  · have hge : 0 ≤ i := by simpa using h1
    have hlt : i < (s.n : Int) := by simpa using h2
    go_enter Tryz.func117, Tryz.ntmps117
    go_upto_region 1 with fail
    refine wp_region_held_drew (S := fun v => v.cell? ⟨gi, 0, none⟩ = some (.int .i64 i) ∧ v.cell? ⟨gp, 0, none⟩ = some (.pointer (some ⟨gs, 0, none⟩))) (by kernel_rfl) (⟨CI.out, CP.out⟩) (fun hHeld => ?_)
    refine tk 0 (v := ?_) (hy := ?_) (h := ?_)
    rotate_left
    · intro v hSw
      have y := hSw.1
      go_simp
      with_reducible rfl
    refine tk 1 (h := ?_)
    refine tk 2 (h := ?_)
    refine tk 3 (v := ?_) (hy := ?_) (h := ?_)
    rotate_left
    · intro v hSw
      have y := hSw.1
      go_simp
      with_reducible rfl
    refine tk 4 (v := ?_) (hy := ?_) (h := ?_)
    rotate_left
    · intro v hSw
      have y := hSw.2
      go_simp
      with_reducible rfl
    refine rd 5 (h := fun K hK => ?_)
    go_simp
    refine (ppages_any HD.out).mono ?_
    rintro e w9 ⟨rfl, hk9⟩
    have CI9 := Lib.hid ((hk9.cell (p := ⟨gi, 0, none⟩) (World.block_lt_of_cell? _ _ CI.out) (fun e => e)).trans CI.out)
    have CP9 := Lib.hid ((hk9.cell (p := ⟨gp, 0, none⟩) (World.block_lt_of_cell? _ _ CP.out) (fun e => e)).trans CP.out)
    have K9 := Lib.hid (((Kp.refl (fun _ => False) w).drew).trans hk9)
    clear hk9
    go_wp2_with fail
    refine hK.out _ _ (⟨CI9.out, CP9.out⟩) (fun hHeld4 => ?_)
    clear hK K
    try simp only [Act.put, List.setIfInBounds_toArray, List.set_cons_zero, List.set_cons_succ]
    refine tk 6 (h := ?_)
    refine tk 7 (h := ?_)
    refine rd 8 (h := fun K hK => ?_)
    go_simp
    refine (punless_any true 2 _).mono ?_
    rintro e w9 ⟨rfl, rfl⟩
    go_wp2_with fail
    refine hK.out _ _ (⟨CI9.out, CP9.out⟩) (fun hHeld5 => ?_)
    clear hK K
    try simp only [Act.put, List.setIfInBounds_toArray, List.set_cons_zero, List.set_cons_succ]
    refine tk 9 (h := ?_)
    refine wpAnyH_done (by kernel_rfl) ?_ _
    clear hHeld
    go_wp2_with fail
    go_ret
    exact ⟨rfl, K9.out⟩
def freeP (s : Sm) (i : Int) : Bool := !decide (i = 0) && Bt.hasB s.cused s.n i
theorem pfree_any (h : Sto F w gs gl b g1 g2 s d) (hi : Box w gi 3 #[.int .i64 i]) (hp : Box w gp 31 #[.pointer (some ⟨gs, 0, none⟩)]) :
    Calls Tryz.prog 124 #[.pointer (some ⟨gi, 0, none⟩), .pointer (some ⟨gp, 0, none⟩)] w fun e w' => e = .returned (.int .i64 (if freeP s i then 0 else 2)) ∧ Kp (fun _ => False) w w' := by
  have HW := Lib.hid h
  have HD := Lib.hid (h.still ((Kp.refl (fun _ => False) w).drew))
  have CI := Lib.hid (show w.drew.cell? ⟨gi, 0, none⟩ = some (.int .i64 i) from hi.cell 0)
  have CP := Lib.hid (show w.drew.cell? ⟨gp, 0, none⟩ = some (.pointer (some ⟨gs, 0, none⟩)) from hp.cell 0)
  have CU := Lib.hid HD.out.cused
  have HNN := Lib.hid h.cu.1
  unfold freeP
  clear h hi hp
  rcases h1 : decide (i = 0) with _ | _
  · have hne : (i != 0) = true := by simpa using h1
    rw [Bool.not_false, Bool.true_and]
    rcases h2 : Bt.hasB s.cused s.n i with _ | _
    · have HAS := Lib.hid h2
      clear h2
      go_enter Tryz.func124, Tryz.ntmps124
      go_upto_region 1 with fail
      refine wp_region_held_drew (S := fun v => v.cell? ⟨gi, 0, none⟩ = some (.int .i64 i) ∧ v.cell? ⟨gp, 0, none⟩ = some (.pointer (some ⟨gs, 0, none⟩)) ∧ v.rangeAt gs 22 (Bt.mcs s.cused s.n)) (by kernel_rfl) (⟨CI.out, CP.out, CU.out⟩) (fun hHeld => ?_)
      refine tk 0 (v := ?_) (hy := ?_) (h := ?_)
      rotate_left
      · intro v hSw
        have y := hSw.1
        go_simp
        with_reducible rfl
      refine tk 1 (h := ?_)
      refine tk 2 (h := ?_)
      refine tk 3 (v := ?_) (hy := ?_) (h := ?_)
      rotate_left
      · intro v hSw
        have y := hSw.2.1
        go_simp
        with_reducible rfl
      refine tk 4 (h := ?_)
      refine tk 5 (h := ?_)
      refine tk 6 (h := ?_)
      refine tk 7 (hy := fun v hSw => exec_load_mid 82 (.tmp 9) rfl gs 22 rfl (Bt.mcs s.cused s.n) _ hSw.2.2 Tryz.underlying82 rfl (Bt.infoMcs _ _)) (h := ?_)
      refine tk 8 (v := ?_) (hy := ?_) (h := ?_)
      rotate_left
      · intro v hSw
        have y := hSw.1
        go_simp
        with_reducible rfl
      refine rd 9 (h := fun K hK => ?_)
      go_simp
      refine (Bt.has_any s.cused s.n i _ HNN.out).mono ?_
      rintro e w9 ⟨rfl, hk9⟩
      rw [HAS.out]
      have CI9 := Lib.hid ((hk9.cell (p := ⟨gi, 0, none⟩) (World.block_lt_of_cell? _ _ CI.out) (fun e => e)).trans CI.out)
      have CP9 := Lib.hid ((hk9.cell (p := ⟨gp, 0, none⟩) (World.block_lt_of_cell? _ _ CP.out) (fun e => e)).trans CP.out)
      have CU9 := Lib.hid (HD.out.still hk9).cused
      have K9 := Lib.hid (((Kp.refl (fun _ => False) w).drew).trans hk9)
      clear hk9
      go_wp2_with fail
      refine hK.out _ _ (⟨CI9.out, CP9.out, CU9.out⟩) (fun hHeld6 => ?_)
      clear hK K
      try simp only [Act.put, List.setIfInBounds_toArray, List.set_cons_zero, List.set_cons_succ]
      refine tk 10 (h := ?_)
      refine rd 11 (h := fun K hK => ?_)
      go_simp
      refine (punless_any false 2 _).mono ?_
      rintro e w9 ⟨rfl, rfl⟩
      go_wp2_with fail
      refine hK.out _ _ (⟨CI9.out, CP9.out, CU9.out⟩) (fun hHeld7 => ?_)
      clear hK K
      try simp only [Act.put, List.setIfInBounds_toArray, List.set_cons_zero, List.set_cons_succ]
      refine tk 12 (h := ?_)
      refine wpAnyH_done (by kernel_rfl) ?_ _
      clear hHeld
      go_wp2_with fail
      go_ret
      exact ⟨rfl, K9.out⟩
    · have HAS := Lib.hid h2
      clear h2
      go_enter Tryz.func124, Tryz.ntmps124
      go_upto_region 1 with fail
      refine wp_region_held_drew (S := fun v => v.cell? ⟨gi, 0, none⟩ = some (.int .i64 i) ∧ v.cell? ⟨gp, 0, none⟩ = some (.pointer (some ⟨gs, 0, none⟩)) ∧ v.rangeAt gs 22 (Bt.mcs s.cused s.n)) (by kernel_rfl) (⟨CI.out, CP.out, CU.out⟩) (fun hHeld => ?_)
      refine tk 0 (v := ?_) (hy := ?_) (h := ?_)
      rotate_left
      · intro v hSw
        have y := hSw.1
        go_simp
        with_reducible rfl
      refine tk 1 (h := ?_)
      refine tk 2 (h := ?_)
      refine tk 3 (v := ?_) (hy := ?_) (h := ?_)
      rotate_left
      · intro v hSw
        have y := hSw.2.1
        go_simp
        with_reducible rfl
      refine tk 4 (h := ?_)
      refine tk 5 (h := ?_)
      refine tk 6 (h := ?_)
      refine tk 7 (hy := fun v hSw => exec_load_mid 82 (.tmp 9) rfl gs 22 rfl (Bt.mcs s.cused s.n) _ hSw.2.2 Tryz.underlying82 rfl (Bt.infoMcs _ _)) (h := ?_)
      refine tk 8 (v := ?_) (hy := ?_) (h := ?_)
      rotate_left
      · intro v hSw
        have y := hSw.1
        go_simp
        with_reducible rfl
      refine rd 9 (h := fun K hK => ?_)
      go_simp
      refine (Bt.has_any s.cused s.n i _ HNN.out).mono ?_
      rintro e w9 ⟨rfl, hk9⟩
      rw [HAS.out]
      have CI9 := Lib.hid ((hk9.cell (p := ⟨gi, 0, none⟩) (World.block_lt_of_cell? _ _ CI.out) (fun e => e)).trans CI.out)
      have CP9 := Lib.hid ((hk9.cell (p := ⟨gp, 0, none⟩) (World.block_lt_of_cell? _ _ CP.out) (fun e => e)).trans CP.out)
      have CU9 := Lib.hid (HD.out.still hk9).cused
      have K9 := Lib.hid (((Kp.refl (fun _ => False) w).drew).trans hk9)
      clear hk9
      go_wp2_with fail
      refine hK.out _ _ (⟨CI9.out, CP9.out, CU9.out⟩) (fun hHeld8 => ?_)
      clear hK K
      try simp only [Act.put, List.setIfInBounds_toArray, List.set_cons_zero, List.set_cons_succ]
      refine tk 10 (h := ?_)
      refine rd 11 (h := fun K hK => ?_)
      go_simp
      refine (punless_any true 2 _).mono ?_
      rintro e w9 ⟨rfl, rfl⟩
      go_wp2_with fail
      refine hK.out _ _ (⟨CI9.out, CP9.out, CU9.out⟩) (fun hHeld9 => ?_)
      clear hK K
      try simp only [Act.put, List.setIfInBounds_toArray, List.set_cons_zero, List.set_cons_succ]
      refine tk 12 (h := ?_)
      refine wpAnyH_done (by kernel_rfl) ?_ _
      clear hHeld
      go_wp2_with fail
      go_ret
      exact ⟨rfl, K9.out⟩
  · have hne : i = 0 := by simpa using h1
    subst hne
    clear h1
    rw [Bool.not_true, Bool.false_and]
    go_enter Tryz.func124, Tryz.ntmps124
    go_upto_region 1 with fail
    refine wp_region_held_drew (S := fun v => v.cell? ⟨gi, 0, none⟩ = some (.int .i64 0) ∧ v.cell? ⟨gp, 0, none⟩ = some (.pointer (some ⟨gs, 0, none⟩)) ∧ v.rangeAt gs 22 (Bt.mcs s.cused s.n)) (by kernel_rfl) (⟨CI.out, CP.out, CU.out⟩) (fun hHeld => ?_)
    refine tk 0 (v := ?_) (hy := ?_) (h := ?_)
    rotate_left
    · intro v hSw
      have y := hSw.1
      go_simp
      with_reducible rfl
    refine tk 1 (h := ?_)
    refine tk 2 (h := ?_)
    refine sk 3 (h := ?_)
    refine sk 4 (h := ?_)
    refine sk 5 (h := ?_)
    refine sk 6 (h := ?_)
    refine sk 7 (h := ?_)
    refine sk 8 (h := ?_)
    refine sk 9 (h := ?_)
    refine tk 10 (h := ?_)
    refine rd 11 (h := fun K hK => ?_)
    go_simp
    refine (punless_any false 2 _).mono ?_
    rintro e w9 ⟨rfl, rfl⟩
    go_wp2_with fail
    refine hK.out _ _ (⟨CI.out, CP.out, CU.out⟩) (fun hHeld10 => ?_)
    clear hK K
    try simp only [Act.put, List.setIfInBounds_toArray, List.set_cons_zero, List.set_cons_succ]
    refine tk 12 (h := ?_)
    refine wpAnyH_done (by kernel_rfl) ?_ _
    clear hHeld
    go_wp2_with fail
    go_ret
    exact ⟨rfl, (Kp.refl _ w).drew⟩
def putP (i : Int) (m : Nat) : Bool := !decide (i = 0) && decide (m = 512)
theorem pput_any (A : Option Addr) (m c : Nat) (hi : Box w gi 3 #[.int .i64 i]) (hb : Box w gb 50 #[.slice A m c]) :
    Calls Tryz.prog 123 #[.pointer (some ⟨gi, 0, none⟩), .pointer (some ⟨gb, 0, none⟩)] w fun e w' => e = .returned (.int .i64 (if putP i m then 0 else 2)) ∧ Kp (fun _ => False) w w' := by
  have y1 := hi.cell 0
  have y2 := hb.cell 0
  unfold putP
  clear hi hb
  rcases h1 : decide (i = 0) with _ | _
  · have hne : ¬ i = 0 := by simpa using h1
    rw [Bool.not_false, Bool.true_and]
    rcases h2 : decide (m = 512) with _ | _
    · have hm : ¬ (m : Int) = 512 := by have : ¬ m = 512 := by simpa using h2
                                        omega
      go_enter Tryz.func123, Tryz.ntmps123
      go_wp2_with fail
      refine (punless_any _ _ _).mono ?_
      rintro e w1 ⟨rfl, rfl⟩
      go_wp2_with fail
      go_ret
      exact ⟨rfl, Kp.refl _ w⟩
    · have hm : (m : Int) = 512 := by have : m = 512 := by simpa using h2
                                      omega
      go_enter Tryz.func123, Tryz.ntmps123
      go_wp2_with fail
      refine (punless_any _ _ _).mono ?_
      rintro e w1 ⟨rfl, rfl⟩
      go_wp2_with fail
      go_ret
      exact ⟨rfl, Kp.refl _ w⟩
  · have hne : i = 0 := by simpa using h1
    rw [Bool.not_true, Bool.false_and]
    go_enter Tryz.func123, Tryz.ntmps123
    go_wp2_with fail
    refine (punless_any _ _ _).mono ?_
    rintro e w1 ⟨rfl, rfl⟩
    go_wp2_with fail
    go_ret
    exact ⟨rfl, Kp.refl _ w⟩
end
end Go.Proofs.YtepaeliamhjgiaaGreatDoor
