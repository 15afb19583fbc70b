/- The law of pages, part 32 of 55: PgONote PgOTexts PgOWriteA PgOWrite. -/
import Derived.Test.YtepaeliamhjgiaaGreatDoorMu1
import Derived.Test.YtepaeliamhjgiaaGreatDoorMu31
import Derived.Test.YtepaeliamhjgiaaGreatDoorMu20
import Derived.Test.YtepaeliamhjgiaaGreatDoorMu5
import Derived.Test.YtepaeliamhjgiaaGreatDoorMu29
set_option maxHeartbeats 16000000
set_option maxRecDepth 100000
namespace Go.Proofs.YtepaeliamhjgiaaGreatDoor
open Go.RowKit Go.Maps Go.Shelf
theorem readNote_any {W : World} {F : Nat -> Prop} {go gs gl b n : Nat} {l : Lm} {d : Dm} {note : List UInt8} {um0 cm0 : List Value} {vl vc : Value} {dead : Bool} (ho : W.cell? ⟨go, 0, none⟩ = some (.pointer (some ⟨gs, 0, none⟩))) (hs : Stb W gs gl b [] um0 vl vc cm0 dead) (hgg : go ≠ gs)
  (hl : Box W gl 130 (lcs b l)) (hgl : gl ≠ gs) (hD : Dsk F W b d) (hFs : ∀ k, F k -> k ≠ gs) (hn : l.h.note = hnote n note) (p1 : 64 <= n) (p2 : n <= 1024) (hnl : note.length <= 40) (hL : l.h.n <= 512) (hlen : 2 + l.h.n + n <= d.on.length) :
  Calls Tryz.prog 43 #[.pointer (some ⟨go, 0, none⟩)] W fun e W' => e = .returned (.int .i64 0) /\ Stb W' gs gl b note (Bt.mcs Bt.nof n) vl vc cm0 dead /\ Kp (fun k => k = gs) W W' := by
 obtain ⟨L, hLn⟩ : ∃ L, l.h.n = L := ⟨_, rfl⟩
 rw [hLn] at hL hlen
 have HLN := hHd hLn
 have HPG := hHd (show ppgsB n = true by simp [ppgsB]; omega)
 have HNT := hHd (show decide (note.length <= 40) = true by simpa using hnl)
 have HNR := hHd (show 1 <= (n : Int) /\ (n : Int) <= 1024 by omega)
 have HSEC := hHd (fun (v : World) => psector_any L n (by omega) (by omega) v)
 have HDL := hHd (show decide (d.on.length < 2 + L + n) = false by simp; omega)
 have HLE := hHd (show 2 + (L : Int) + (n : Int) <= (d.on.length : Int) by omega)
 have HN16 := hHd (show n < 256 ^ 2 by omega)
 have HNL := hHd hnl
 have OB := hHd ho
 have S0 := hHd hs
 have HGG := hHd hgg
 have HGL := hHd hgl
 have LG := hHd hl
 have D0 := hHd hD
 have HFS := hHd hFs
 have hnt := lnote_any hl
 rw [hn] at hnt
 have HNOTE := hHd hnt
 have hw64 : IntKind.i64.wrap (n : Int) = (n : Int) := IntWalk.i64_in _ (by omega)
 obtain ⟨z, hz⟩ : ∃ z, hnote n note = z := ⟨_, rfl⟩
 have HZ := hHd hz
 have y0 := ho
 have y1 := hs.cells.1
 clear ho hs hgg hgl hl hD hFs hn p1 p2 hnl hL hlen hLn hnt hz
 rw [HZ.out] at HNOTE
 go_enter Tryz.func43, Tryz.ntmps43
 go_wp2_with fail
 refine HNOTE.out.mono ?_
 rintro e w1 ⟨rfl, rfl⟩
 have hbs := run_bytes_of_string (P := Tryz.prog) W 9 50 5 ⟨z.toArray⟩ Tryz.underlying9 Tryz.underlying50 Tryz.underlying5
 generalize hcap : grownCap W (ByteArray.size ⟨z.toArray⟩) 0 5 = cap at hbs
 clear hcap
 generalize hrow : (bytesRow ⟨z.toArray⟩ cap).size = rs at hbs
 clear hrow
 go_wp2_with fail
 obtain ⟨w1, hw1, hk1, hrd1⟩ : ∃ w1, w1 = (W.alloc (.cells (bytesRow ⟨z.toArray⟩ cap) 5 (rs, rs + 1))).drew /\ Kp (fun _ => False) W w1 /\ Rd w1 (some ⟨W.heap.size, 0, none⟩) z := ⟨_, rfl, ((Kp.refl _ W).alloc _).drew, rd_text W ⟨z.toArray⟩ cap _ _⟩
 rw [<- hw1]
 have K1 := hHd hk1
 have HOF := hHd (of_any (fun k => W.heap.size <= k) w1 (fun k hk => Nat.le_trans hk1.size hk) (some ⟨W.heap.size, 0, none⟩) z.length cap z rfl hrd1 (by rw [<- HZ.out]; have := HNL.out; simp only [hnote, List.length_append, beN_length]; omega))
 clear hw1 hk1 hrd1 hbs
 refine HOF.out.mono ?_
 rintro e w2 ⟨q, rfl, hq, hop, hk⟩
 have hq2 : W.heap.size <= q := Nat.le_trans K1.out.size hq
 have HQ := hHd hq2
 have HNE := hHd (show gs ≠ q from by have := S0.out.2.2.lt; omega)
 have HNO := hHd (show go ≠ q from by have : go < W.heap.size := World.block_lt_of_cell? W _ OB.out; omega)
 have KW2 := hHd (K1.out.trans hk)
 have O2 := hHd (show Opn (fun k => W.heap.size <= k) w2 q (beN 2 n ++ note) none from (show z = beN 2 n ++ note from HZ.out.symm) ▸ hop)
 clear hop hk HOF hq hq2 y0 y1
 go_wp2_with fail
 refine (take_fine O2.out 2 rfl (by simp [beN_length])).mono ?_
 rw [List.take_left' (beN_length 2 n), List.drop_left' (beN_length 2 n), numN_beN 2 n HN16.out]
 rintro e w3 ⟨rfl, ho3, hk3⟩
 have O3 := hHd ho3
 have S3 := hHd ((S0.out.still KW2.out).kp hk3 (fun e => HNE.out (by have : gs = q := e; exact this)))
 have OB3 := hHd ((hk3.cell (p := ⟨go, 0, none⟩) (Nat.lt_of_lt_of_le (World.block_lt_of_cell? W _ OB.out) KW2.out.size) (fun e => HNO.out (by have : go = q := e; exact this))).trans ((KW2.out.cell (p := ⟨go, 0, none⟩) (World.block_lt_of_cell? W _ OB.out) (fun e => e)).trans OB.out))
 have KW3 := hHd ((KW2.out.of_false (S := fun k => W.heap.size <= k)).trans (hk3.mono fun k _ e => by rw [show k = q from e]; exact HQ.out))
 clear ho3 hk3
 have kd3 : Kp (fun _ => False) w3 w3.drew := (Kp.refl _ w3).drew
 have O3 := hHd (O3.out.kp kd3 (fun _ _ e => e))
 have S3 := hHd (S3.out.still kd3)
 have OB3 := hHd (show w3.drew.cell? ⟨go, 0, none⟩ = some (.pointer (some ⟨gs, 0, none⟩)) from OB3.out)
 have OB2 := OB3
 have KW3 := hHd (KW3.out.trans (kd3.of_false (S := fun k => W.heap.size <= k)))
 clear kd3
 go_upto_region 3 with fail
 refine wp_region_held_drew (S := fun v => v.cell? ⟨go, 0, none⟩ = some (.pointer (some ⟨gs, 0, none⟩))) (by kernel_rfl) (OB2.out) (fun hHeld => ?_)
 refine tk 0 (h := ?_)
 refine tk 1 (h := ?_)
 refine tk 2 (h := ?_)
 refine tk 3 (h := ?_)
 refine tk 4 (h := ?_)
 refine tk 5 (h := ?_)
 refine rd 6 (h := fun K hK => ?_)
 go_simp
 refine (left_any O3.out).mono ?_
 rintro e w9 ⟨rfl, rfl⟩
 go_wp2_with fail
 refine hK.out _ _ (OB2.out) (fun hHeld1 => ?_)
 clear hK K
 try simp only [Act.put, sIa, sI0, sI1]
 refine rd 7 (h := fun K hK => ?_)
 go_simp
 refine (otext_fine O3.out note.length (Nat.le_refl _)).mono ?_
 rw [List.take_length, List.drop_length]
 rintro e w4 ⟨rfl, ho, hk⟩
 have S4 := hHd (S3.out.kp hk (fun e => HNE.out (by have : gs = q := e; exact this)))
 have OB4 := hHd ((hk.cell (p := ⟨go, 0, none⟩) (World.block_lt_of_cell? _ _ OB3.out) (fun e => HNO.out (by have : go = q := e; exact this))).trans OB3.out)
 have K4 := hHd (KW3.out.trans (hk.mono (S' := fun k => W.heap.size <= k) fun k _ e => by rw [show k = q from e]; exact HQ.out))
 have y4 := S4.out.cells.2.2.1
 have f4 := S4.out.free 2
 clear ho hk
 go_wp2_with fail
 refine hK.out _ _ (OB4.out) (fun hHeld2 => ?_)
 clear hK K
 try simp only [Act.put, sIa, sI0, sI1]
 refine tk 8 (h := ?_)
 refine tk 9 (h := ?_)
 refine rd 10 (h := fun K hK => ?_)
 go_simp
 have S5 := hHd (S4.out.setNote note)
 have K5 := hHd (K4.out.mono (S' := fun k => W.heap.size <= k \/ k = gs) fun _ _ e => .inl e)
 have K6 := hHd (K5.out.setCell (p := ⟨gs, 2, none⟩) (.inr (.inr rfl)) (.string ⟨note.toArray⟩))
 have OB5 := hHd (((Kp.refl (fun k => k = gs) w4).setCell (p := ⟨gs, 2, none⟩) (.inr rfl) (.string ⟨note.toArray⟩)).cell (p := ⟨go, 0, none⟩) (World.block_lt_of_cell? _ _ OB4.out) (fun e => HGG.out (by have : go = gs := e; exact this)) |>.trans OB4.out)
 generalize w4.setCell ⟨gs, 2, none⟩ (.string ⟨note.toArray⟩) = w5 at *
 clear y4 f4
 refine hK.out _ _ (OB5.out) (fun hHeld3 => ?_)
 clear hK K
 try simp only [Act.put, sIa, sI0, sI1]
 refine wpAnyH_done (by kernel_rfl) ?_ _
 have S7 := S5
 have OB7 := OB5
 have LG7 := hHd (LG.out.kp K6.out (fun e => by rcases e with e | e; exact absurd LG.out.lt (Nat.not_lt.2 e); exact HGL.out e))
 have D7 := hHd (show Dsk F w5 b d by
  obtain ⟨F', hd', hf'⟩ := D0.out.fit
  exact (hd'.kp K6.out (fun k hk e => by rcases e with e | e; exact absurd (hf' k hk).2 (Nat.not_lt.2 e); exact HFS.out k (hf' k hk).1 e)).mono fun k hk => (hf' k hk).1)
 clear OB5 OB4 OB3 OB2 S5 S4 S3 S0 O3 O2 hHeld
 go_upto_region 4 with fail
 have kd5 : Kp (fun _ => False) w5 w5.drew := (Kp.refl _ w5).drew
 have S7 := hHd (S7.out.still kd5)
 have OB7 := hHd (show w5.drew.cell? ⟨go, 0, none⟩ = some (.pointer (some ⟨gs, 0, none⟩)) from OB7.out)
 have LG7 := hHd (LG7.out.kp kd5 (fun e => e))
 have D7 := hHd (D7.out.still kd5)
 have K6 := hHd (K6.out.drew)
 clear kd5
 refine wp_region_held_drew (S := fun v => v.cell? ⟨go, 0, none⟩ = some (.pointer (some ⟨gs, 0, none⟩)) /\ Stb v gs gl b note um0 vl vc cm0 dead) (by kernel_rfl) (⟨OB7.out, S7.out⟩) (fun hHeld => ?_)
 refine tk 0 (h := ?_)
 refine rd 1 (h := fun K hK => ?_)
 go_simp
 refine (ppgs_any _ _).mono ?_
 rintro e w9 ⟨rfl, rfl⟩
 rw [HPG.out]
 go_wp2_with fail
 refine hK.out _ _ (⟨OB7.out, S7.out⟩) (fun hHeld4 => ?_)
 clear hK K
 try simp only [Act.put, sIa, sI0, sI1]
 refine tk 2 (h := ?_)
 refine tk 3 (h := ?_)
 refine tk 4 (h := ?_)
 refine tk 5 (h := ?_)
 refine tk 6 (h := ?_)
 refine tk 7 (v := ?_) (hy := ?_) (h := ?_)
 rotate_left
 ·intro v hSw
  have y := hSw.1
  go_simp
  with_reducible rfl
 refine tk 8 (h := ?_)
 refine tk 9 (h := ?_)
 refine tk 10 (v := ?_) (hy := ?_) (h := ?_)
 rotate_left
 ·intro v hSw
  have y := (Stb.cells hSw.2).2.2.1
  go_simp
  with_reducible rfl
 refine rd 11 (h := fun K hK => ?_)
 go_simp
 refine (pnote_any note _).mono ?_
 rintro e w9 ⟨rfl, rfl⟩
 rw [HNT.out]
 go_wp2_with fail
 refine hK.out _ _ (⟨OB7.out, S7.out⟩) (fun hHeld5 => ?_)
 clear hK K
 try simp only [Act.put, sIa, sI0, sI1]
 refine tk 12 (h := ?_)
 refine tk 13 (h := ?_)
 refine tk 14 (h := ?_)
 refine tk 15 (h := ?_)
 refine tk 16 (h := ?_)
 refine tk 17 (h := ?_)
 refine tk 18 (v := ?_) (hy := ?_) (h := ?_)
 rotate_left
 ·intro v hSw
  have y := hSw.1
  go_simp
  with_reducible rfl
 refine tk 19 (h := ?_)
 refine tk 20 (h := ?_)
 refine tk 21 (v := ?_) (hy := ?_) (h := ?_)
 rotate_left
 ·intro v hSw
  have y := (Stb.cells hSw.2).1
  go_simp
  with_reducible rfl
 refine tk 23 (h := ?_)
 refine tk 25 (h := ?_)
 refine tk 26 (h := ?_)
 refine tk 27 (h := ?_)
 refine tk 28 (v := ?_) (hy := ?_) (h := ?_)
 rotate_left
 ·intro v hSw
  have y := hSw.1
  go_simp
  with_reducible rfl
 refine tk 29 (h := ?_)
 refine tk 30 (h := ?_)
 refine tk 31 (v := ?_) (hy := ?_) (h := ?_)
 rotate_left
 ·intro v hSw
  have y := (Stb.cells hSw.2).2.1
  go_simp
  with_reducible rfl
 refine rd 22 (h := fun K hK => ?_)
 go_simp
 refine (lsectors_any LG7.out).mono ?_
 rintro e w9 ⟨rfl, rfl⟩
 rw [HLN.out]
 go_wp2_with fail
 refine hK.out _ _ (⟨OB7.out, S7.out⟩) (fun hHeld6 => ?_)
 clear hK K
 try simp only [Act.put, sIa, sI0, sI1]
 refine rd 24 (h := fun K hK => ?_)
 go_simp
 refine (HSEC.out _).mono ?_
 rintro e w9 ⟨rfl, rfl⟩
 skip
 go_wp2_with fail
 refine hK.out _ _ (⟨OB7.out, S7.out⟩) (fun hHeld7 => ?_)
 clear hK K
 try simp only [Act.put, sIa, sI0, sI1]
 refine rd 32 (h := fun K hK => ?_)
 go_simp
 refine (len_any D7.out).mono ?_
 rintro e w9 ⟨rfl, rfl⟩
 skip
 go_wp2_with fail
 refine hK.out _ _ (⟨OB7.out, S7.out⟩) (fun hHeld8 => ?_)
 clear hK K
 try simp only [Act.put, sIa, sI0, sI1]
 refine tk 33 (h := ?_)
 refine tk 34 (h := ?_)
 refine wpAnyH_done (by kernel_rfl) ?_ _
 clear hHeld
 have hle := HLE.out
 go_wp2_with fail
 go_upto_region 7 with fail
 have kd7 : Kp (fun _ => False) w5.drew w5.drew.drew := (Kp.refl _ w5.drew).drew
 have S8 := hHd (S7.out.still kd7)
 have OB8 := hHd (show w5.drew.drew.cell? ⟨go, 0, none⟩ = some (.pointer (some ⟨gs, 0, none⟩)) from OB7.out)
 have K8 := hHd (K6.out.drew)
 clear kd7
 refine wp_region_held_drew (S := fun v => v.cell? ⟨go, 0, none⟩ = some (.pointer (some ⟨gs, 0, none⟩))) (by kernel_rfl) (OB8.out) (fun hHeld => ?_)
 refine tk 0 (h := ?_)
 refine tk 1 (h := ?_)
 refine tk 2 (h := ?_)
 refine tk 3 (h := ?_)
 refine tk 4 (h := ?_)
 refine rd 5 (h := fun K hK => ?_)
 go_simp
 refine (Bt.new_any n _).mono ?_
 rw [if_pos HNR.out, if_pos HNR.out, Int.toNat_natCast]
 rintro e w9 ⟨rfl, hk9⟩
 have S9 := hHd (S8.out.still hk9)
 have OB9 := hHd ((hk9.cell (p := ⟨go, 0, none⟩) (World.block_lt_of_cell? _ _ OB8.out) (fun e => e)).trans OB8.out)
 have K9 := hHd (K8.out.trans hk9.of_false)
 clear hk9
 go_wp2_with fail
 refine hK.out _ _ (OB9.out) (fun hHeld9 => ?_)
 clear hK K
 try simp only [Act.put, sIa, sI0, sI1]
 refine tk 6 (h := ?_)
 refine tk 7 (h := ?_)
 refine tk 8 (h := ?_)
 refine tk 9 (h := ?_)
 refine tk 10 (h := ?_)
 refine rd 11 (h := fun K hK => ?_)
 rw [if_pos (by rfl)]
 have hbx := S9.out.2.2
 rw [stc_um] at hbx
 refine wp_store_part 82 (.tmp 74) (.tmp 71) rfl gs (sth gl b note) um0 (Bt.mcs Bt.nof n) ([vl, vc] ++ cm0 ++ [.bool dead]) rfl rfl hbx (by rw [S9.out.1, Bt.mcs_length]) (Bt.infoMcs _ _) (Bt.mcs_one _ _) ?_
 intro w10 hb10 hk10
 have S10 := hHd (S9.out.newUm (Bt.mcs_length _ _) hb10)
 have OB10 := hHd ((hk10.cell (p := ⟨go, 0, none⟩) (World.block_lt_of_cell? _ _ OB9.out) (fun e => HGG.out (by have : go = gs := e; exact this))).trans OB9.out)
 have K10 := hHd (K9.out.trans (hk10.mono (S' := fun k => W.heap.size <= k \/ k = gs) fun _ _ e => .inr e))
 clear hbx hb10 hk10
 refine hK.out _ _ (OB10.out) (fun hHeld10 => ?_)
 clear hK K
 try simp only [Act.put]
 refine tk 12 (h := ?_)
 refine wpAnyH_done (by kernel_rfl) ?_ _
 clear hHeld
 go_wp2_with fail
 trace_state
 go_ret
 exact ⟨rfl, S10.out, K10.out.mono fun k hk e => by rcases e with e | e; exact absurd hk (Nat.not_lt.2 e); exact e⟩
def mapV (g : Nat) : Value := .map (some g)
theorem batchInf : ∃ i, Tryz.prog.info? 78 = some i /\ i.zero = some (.map none) /\ i.size = 1 /\ i.bytes = 8 := by
 have h : (Tryz.prog.info? 78).map (fun i => (i.zero, i.size, i.bytes)) = some (some (.map none), 1, 8) := by kernel_rfl
 cases hi : Tryz.prog.info? 78 with
 |none => rw [hi] at h; cases h
 |some i =>
  rw [hi] at h
  simp only [Option.map_some, Option.some.injEq, Prod.mk.injEq] at h
  exact ⟨i, rfl, h.1, h.2.1, h.2.2⟩
def Bts (B : Nat) (w : World) (n : Nat) (bs : List Bm) (v : Value) : Prop :=
 ∃ gs : List Nat, gs.length = bs.length /\ w.ownsRow B 78 1 v bs.length (gs.map mapV) /\ ∀ (i g : Nat) (m : Bm), gs[i]? = some g -> bs[i]? = some m -> B <= g /\ Pgm w g n m
section
variable {w w' : World} {B n : Nat} {bs : List Bm} {v : Value}
theorem Pgm.not_cells {g : Nat} {m : Bm} (h : Pgm w g n m) {cs : Array Value} {t : TypeId} {fr : Nat × Nat} : w.heap[g]? ≠ some (.cells cs t fr) := by
 obtain ⟨_, _, c, D, ⟨es, clock, hb, _⟩, _⟩ := h
 rw [hb]
 exact fun e => by cases e
theorem Bts.kp {S : Nat -> Prop} (h : Bts B w n bs v) (hk : Kp S w w') (hn : ∀ k, S k -> k < B) : Bts B w' n bs v := by
 obtain ⟨gs, h1, h2, h3⟩ := h
 refine ⟨gs, h1, down_kp h2 hk (fun k e hs => ?_), fun i g m hg hm => ?_⟩
 ·have := hn k hs
  have := (h2.lt k e).1
  omega
 ·obtain ⟨e1, e2⟩ := h3 i g m hg hm
  exact ⟨e1, e2.kp hk fun hs => by have := hn g hs; omega⟩
theorem Bts.still (h : Bts B w n bs v) (hk : Kp (fun _ => False) w w') : Bts B w' n bs v := h.kp hk fun _ e => e.elim
theorem Bts.snoc {gs : List Nat} {g : Nat} {m : Bm} {v' : Value} (h1 : gs.length = bs.length) (h2 : w.ownsRow B 78 1 v bs.length (gs.map mapV)) (h3 : ∀ (i g : Nat) (m : Bm), gs[i]? = some g -> bs[i]? = some m -> B <= g /\ Pgm w g n m)
  (hg : B <= g) (hm : Pgm w g n m) (hk : Kp (fun q => v.ownBlock = some q) w w') (ho : w'.ownsRow B 78 1 v' (bs.length + 1) (gs.map mapV ++ [mapV g])) : Bts B w' n (bs ++ [m]) v' := by
 have hoff : ∀ {q : Nat} {m' : Bm}, Pgm w q n m' -> ¬ v.ownBlock = some q := fun {q m'} hq e => by
  rcases h2.2 with ⟨rfl, _⟩ | ⟨g', cap, cur, rfl, _, hb, _⟩
  ·cases e
  ·injection e with e
   subst e
   exact hq.not_cells hb
 refine ⟨gs ++ [g], by simp [h1], by rw [List.map_append, List.length_append]; exact ho, fun i q m' hq hm' => ?_⟩
 rcases Nat.lt_trichotomy i bs.length with hi | hi | hi
 ·rw [List.getElem?_append_left (by omega)] at hq
  rw [List.getElem?_append_left hi] at hm'
  obtain ⟨e1, e2⟩ := h3 i q m' hq hm'
  exact ⟨e1, e2.kp hk (hoff e2)⟩
 ·subst hi
  rw [List.getElem?_append_right (by omega), h1, Nat.sub_self] at hq
  rw [List.getElem?_append_right (Nat.le_refl _), Nat.sub_self] at hm'
  simp only [List.getElem?_cons_zero, Option.some.injEq] at hq hm'
  subst hq
  subst hm'
  exact ⟨hg, hm.kp hk (hoff hm)⟩
 ·rw [List.getElem?_eq_none (by simp; omega)] at hm'
  cases hm'
end
theorem ppages_stb {w : World} {gs gl b n : Nat} {note : List UInt8} {f : Nat -> Bool} {vl vc : Value} {cm : List Value} {dead : Bool} (h : Stb w gs gl b note (Bt.mcs f n) vl vc cm dead) :
  Calls Tryz.prog 16 #[.pointer (some ⟨gs, 0, none⟩)] w fun e w' => e = .returned (.int .i64 n) /\ Kp (fun _ => False) w w' := by
 have HU := hHd h.rum
 clear h
 go_enter Tryz.func16, Tryz.ntmps16
 go_wp2_with (first | (refine wpList_load_mid rfl 82 (.tmp 7) rfl gs 3 rfl (Bt.mcs f n) _ HU.out Tryz.underlying82 rfl (Bt.infoMca _ _) ?_) | fail)
 refine (Bt.len_any f n w).mono ?_
 rintro e w1 ⟨rfl, hk⟩
 have K := hHd hk
 clear hk
 go_wp2_with fail
 go_ret
 exact ⟨rfl, K.out⟩
theorem readTexts_any {W : World} {go gs gl b n : Nat} {note : List UInt8} {f : Nat -> Bool} {vl vc vt : Value} {cm : List Value} {dead : Bool} {bs : List Bm} (hb : Box W go 89 #[.pointer (some ⟨gs, 0, none⟩), vt, .slice none 0 0])
  (hs : Stb W gs gl b note (Bt.mcs f n) vl vc cm dead) (ht : RdR W 9 1 vt bs.length (strs (bs.map fun m => m.text n))) (hn : n <= 1024) (hok : ∀ m ∈ bs, Bm.Ok m n) (hlen : bs.length <= 513) :
  Calls Tryz.prog 44 #[.pointer (some ⟨go, 0, none⟩)] W fun e W' => e = .returned (.int .i64 0) /\ ∃ vb, Box W' go 89 #[.pointer (some ⟨gs, 0, none⟩), vt, vb] /\ Bts W.heap.size W' n bs vb /\ Kp (fun k => k = go) W W' := by
 obtain ⟨i0, hi0, hz0, hz1, hz2⟩ := batchInf
 have OB := hHd hb
 have S0 := hHd hs
 have RT := hHd ht
 have HN := hHd hn
 have HOK := hHd hok
 have HL := hHd hlen
 have HGG := hHd (show gs ≠ go from hs.2.2.type_ne hb (by decide))
 have HGO := hHd hb.lt
 obtain ⟨_, At, ct, hvt, _⟩ := ht
 subst hvt
 have y0 := hb.cell 1
 have hl63 : (bs.length : Int) <= 513 := by omega
 clear hb hs hn hok hlen
 go_enter Tryz.func44, Tryz.ntmps44
 go_wp2_with fail
 go_loopw [12] (fun s12 wr => ∃ (k : Nat) (vb : Value), k <= bs.length /\ s12 = .int .i64 k /\ Box wr go 89 #[.pointer (some ⟨gs, 0, none⟩), .slice At bs.length ct, vb] /\ Bts W.heap.size wr n (bs.take k) vb /\ Kp (fun k => k = go) W wr) (fun s12 _ => bs.length - (Go.RowKit.intOf s12).toNat)
 case atStart => exact ⟨0, _, Nat.zero_le _, rfl, OB.out, ⟨[], rfl, World.ownsRow_nil _ _ _ _, fun i g m h => by simp at h⟩, Kp.refl _ W⟩
 case round =>
  obtain ⟨k, vb, hk, rfl, hbx, hbt, hkp⟩ := hrel
  have BX := hHd hbx
  have BT := hHd hbt
  have KW := hHd hkp
  have SW := hHd (S0.out.kp hkp (fun e => HGG.out e))
  have RW := hHd (RT.out.kp hkp (fun q cs fr hq e => by
   have hq' : q = go := e
   subst hq'
   have := OB.out
   unfold Box at this
   rw [this] at hq
   injection hq with hq
   injection hq with _ hq
   revert hq
   decide))
  clear hkp
  by_cases hlt : k < bs.length
  ·obtain ⟨m, hm⟩ : ∃ m, bs[k]? = some m := ⟨_, List.getElem?_eq_getElem hlt⟩
   have HM := hHd hm
   have HMO := hHd (HOK.out m (List.mem_of_getElem? hm))
   obtain ⟨bv, cv', hvg, _, hcell⟩ := RW.out.cell (show 0 < bs.length by omega)
   injection hvg with hA hB0 hC
   clear hB0
   subst hA
   subst hC
   have y := hcell k (.string ⟨(m.text n).toArray⟩) (by simp [strs, hm])
   have y1 := hbx.cell 0
   have y2 := hbx.cell 2
   have yf := hbx.free 2
   clear hcell hm hbx hbt
   go_upto_region 4 with fail
   go_wp2_with fail
   refine (ppages_stb SW.out).mono ?_
   rintro e w1 ⟨rfl, hk1⟩
   have K1 := hHd hk1
   clear hk1
   go_wp2_with fail
   refine (batchOf_any n HN.out m HMO.out w1).mono ?_
   rintro e w2 ⟨g, rfl, hg, hpg, hk2⟩
   have K2 := hHd (K1.out.trans hk2)
   have B2 := hHd (Box.kp BX.out K2.out (fun e => e))
   have HGB := hHd (show W.heap.size <= g from Nat.le_trans (Nat.le_trans KW.out.size K1.out.size) hg)
   have PG2 := hHd hpg
   obtain ⟨ms, hms, hrow, hall⟩ := BT.out.still K2.out
   have hkl : (bs.take k).length = k := by rw [List.length_take]; omega
   have hrow' := hrow
   rw [hkl] at hrow'
   have HMS := hHd hms
   have ROW := hHd hrow
   have ROWK := hHd hrow'
   have ALL := hHd hall
   have HKL := hHd hkl
   have HK5 := hHd (show k <= 512 by have := HL.out; omega)
   have HW2 := hHd (Nat.le_trans KW.out.size K2.out.size)
   have z0 := B2.out.cell 0
   have z2 := B2.out.cell 2
   have zf := B2.out.free 2
   clear hg hpg hk2 hms hrow hrow' hall hkl y y1 y2 yf
   go_wp2_with (at_builtin; go_must (refine wpList_append_own _ rfl (.tmp 32) (.tmp 34) 87 rfl W.heap.size 78 i0 (.map none) 1 8 Tryz.underlying87 hi0 hz0 hz1 hz2 rfl (by decide) vb k (ms.map mapV) rfl (ROWK.out.alloc _) ⟨w2.heap.size, 0, none⟩ 1 1 [.map (some g)] rfl rfl (cell_one_new _ _ _) (by intro u hu; simp only [List.mem_cons, List.not_mem_nil, or_false] at hu; subst hu; rfl) (by have := HK5.out; unfold maxLen; omega) (by have := HK5.out; omega) (by have := HW2.out; simp; omega) ?_; intro v4 w4 hown4 hgr4 _; obtain ⟨A4, c4, rfl⟩ := own_shape3 hown4; have R4 := hHd hown4; have K4 := hHd (((Kp.refl (fun q => vb.ownBlock = some q) w2).alloc _).grown hgr4 (fun q hq => .inr hq)); have B4 := hHd ((B2.out.alloc _).grown hgr4 (fun e => Box.own_ne B2.out ROWK.out (by decide) e.symm)); have x0 := B4.out.cell 0; have x2 := B4.out.cell 2; have xf := B4.out.free 2; clear hown4 hgr4 z0 z2 zf))
   have KS := hHd (Kp.one w4 go 2 (.slice A4 (k + 1) c4))
   have B5 := hHd (B4.out.put 2 (.slice A4 (k + 1) c4))
   have BT5 := hHd ((Bts.snoc HMS.out ROW.out ALL.out HGB.out PG2.out K4.out (by rw [HKL.out]; exact R4.out)).kp KS.out (fun q e => by rw [show q = go from e]; exact HGO.out))
   have K5 := hHd (((KW.out.trans K2.out.of_false).trans_new K4.out (fun q e => .inl (ROW.out.lt q e).1)).trans KS.out)
   go_roundw
   case measure =>
    simp only [Go.RowKit.intOf]
    omega
   case rel =>
    refine ⟨k + 1, _, by omega, ?_, B5.out, ?_, K5.out⟩
    ·rfl
    ·rw [List.take_add_one, HM.out]
     exact BT5.out
  ·have hkb : k = bs.length := by omega
   subst hkb
   have BT1 := BT.out
   rw [List.take_length] at BT1
   go_wp2_with fail
   go_ret
   exact ⟨rfl, vb, BX.out, BT1, KW.out⟩
theorem wait_putPg (o : Nat) (m : Bm) : ∀ (ks : List Nat) (d : Dm), (Dm.putPg o m ks d).1.wait.length <= d.wait.length + ks.length
 |[], d => Nat.le_refl _
 |i :: r, d => by
  rw [putPg_step]
  have h1 := wait_writeS d ((o + i : Nat) : Int) (m.at_ i)
  split
  ·have h2 := wait_putPg o m r (d.writeS ((o + i : Nat) : Int) (m.at_ i)).1
   simp only [List.length_cons]
   omega
  ·simp only [List.length_cons]
   omega
theorem putBs_step (o n : Nat) (m : Bm) (r : List Bm) (d : Dm) : Dm.putBs o n (m :: r) d = if (Dm.putPg o m (m.keys n) d).2 = 0 then Dm.putBs o n r (Dm.putPg o m (m.keys n) d).1 else Dm.putPg o m (m.keys n) d := rfl
def BtR (G : Nat -> Prop) (w : World) (n : Nat) (bs : List Bm) (A : Option Addr) (c : Nat) : Prop :=
 ∃ gs : List Nat, gs.length = bs.length /\ RdR w 78 1 (.slice A bs.length c) bs.length (gs.map mapV) /\ (∀ b, A = some ⟨b, 0, none⟩ -> G b) /\ ∀ (i g : Nat) (m : Bm), gs[i]? = some g -> bs[i]? = some m -> G g /\ Pgm w g n m
theorem BtR.kp {G S : Nat -> Prop} {w w' : World} {n : Nat} {bs : List Bm} {A : Option Addr} {c : Nat} (h : BtR G w n bs A c) (hk : Kp S w w') (hn : ∀ k, G k -> ¬ S k) : BtR G w' n bs A c := by
 obtain ⟨gs, h1, h2, h3, h4⟩ := h
 refine ⟨gs, h1, h2.kpb hk (fun b e => hn b (h3 b e)), h3, fun i g m hg hm => ?_⟩
 obtain ⟨e1, e2⟩ := h4 i g m hg hm
 exact ⟨e1, e2.kp hk (hn g e1)⟩
theorem Bts.read {B : Nat} {w : World} {n : Nat} {bs : List Bm} {v : Value} (h : Bts B w n bs v) : ∃ A c, v = .slice A bs.length c /\ BtR (fun k => B <= k /\ k < w.heap.size) w n bs A c := by
 obtain ⟨gs, h1, h2, h3⟩ := h
 obtain ⟨A, c, rfl⟩ := own_shape3 h2
 refine ⟨A, c, rfl, gs, h1, RdR.of_own h2, fun b e => ?_, fun i g m hg hm => ?_⟩
 ·subst e
  exact h2.lt b rfl
 ·obtain ⟨e1, e2⟩ := h3 i g m hg hm
  exact ⟨⟨e1, e2.lt⟩, e2⟩
theorem writeTexts_any {W : World} {F G : Nat -> Prop} {go gs gl b n c : Nat} {l : Lm} {d : Dm} {note : List UInt8} {um cm : List Value} {vl vc vt : Value} {A : Option Addr} {dead : Bool} {bs : List Bm} (hF : ∀ k, W.heap.size <= k -> F k) (hFo : ¬ F go) (hFs : ¬ F gs) (hFl : ¬ F gl) (hG : ∀ k, G k -> ¬ F k)
  (hb : Box W go 89 #[.pointer (some ⟨gs, 0, none⟩), vt, .slice A bs.length c]) (hs : Stb W gs gl b note um vl vc cm dead) (hl : Box W gl 130 (lcs b l)) (ht : BtR G W n bs A c) (hlen : bs.length <= 513) (hD : Dsk F W b d) (hL : l.h.n <= 512) (hw : d.wait.length + 600000 < 1073741824) :
  Calls Tryz.prog 46 #[.pointer (some ⟨go, 0, none⟩)] W fun e W' => e = .returned (.int .i64 (Dm.putBs (2 + l.h.n) n bs d).2) /\ Dsk F W' b (Dm.putBs (2 + l.h.n) n bs d).1 /\ Kp F W W' := by
 obtain ⟨L, hLn⟩ : ∃ L, l.h.n = L := ⟨_, rfl⟩
 rw [hLn] at hL ⊢
 have HLN := hHd hLn
 have HF := hHd hF
 have HFO := hHd hFo
 have HFS := hHd hFs
 have HFL := hHd hFl
 have HG := hHd hG
 have B0 := hHd hb
 have S0 := hHd hs
 have L0 := hHd hl
 have T0 := hHd ht
 have D0 := hHd hD
 have HL := hHd (show L <= 100000 by omega)
 have HWT := hHd hw
 have HLEN := hHd hlen
 have y0 := hb.cell 2
 have hl63 : (bs.length : Int) <= 513 := by omega
 clear hF hFo hFs hFl hG hb hs hl ht hlen hD hL hw hLn
 go_enter Tryz.func46, Tryz.ntmps46
 go_wp2_with fail
 go_loopw [11] (fun s11 wr => ∃ (k : Nat) (d1 : Dm), k <= bs.length /\ s11 = .int .i64 k /\ Dsk F wr b d1 /\ Kp F W wr /\ Dm.putBs (2 + L) n bs d = Dm.putBs (2 + L) n (bs.drop k) d1 /\ d1.wait.length <= d.wait.length + 1024 * k) (fun s11 _ => bs.length - (Go.RowKit.intOf s11).toNat)
 case atStart => exact ⟨0, d, Nat.zero_le _, rfl, D0.out, Kp.refl _ W, rfl, Nat.le_refl _⟩
 case round =>
  obtain ⟨k, d1, hk, rfl, hd, hkp, heq, hwt⟩ := hrel
  have DW := hHd hd
  have KW := hHd hkp
  have HEQ := hHd heq
  have HWT1 := hHd hwt
  have BW := hHd (Box.kp B0.out hkp HFO.out)
  have SW := hHd (S0.out.kp hkp HFS.out)
  have LW := hHd (Box.kp L0.out hkp HFL.out)
  have TW := hHd (T0.out.kp hkp HG.out)
  clear hd hkp heq hwt
  by_cases hlt : k < bs.length
  ·obtain ⟨m, hm⟩ : ∃ m, bs[k]? = some m := ⟨_, List.getElem?_eq_getElem hlt⟩
   obtain ⟨ms, hms, hrr, hAG, hall⟩ := TW.out
   obtain ⟨g, hg⟩ : ∃ g, ms[k]? = some g := ⟨_, List.getElem?_eq_getElem (by omega)⟩
   obtain ⟨hgG, hpg⟩ := hall k g m hg hm
   obtain ⟨bv, cv', hvg, _, hcell⟩ := hrr.cell (show 0 < bs.length by omega)
   injection hvg with hA hB0 hC
   clear hB0
   subst hA
   subst hC
   have y := hcell k (.map (some g)) (by rw [List.getElem?_map, hg]; rfl)
   have hdr : bs.drop k = m :: bs.drop (k + 1) := by
    rw [List.drop_eq_getElem_cons hlt]
    congr 1
    have := List.getElem?_eq_getElem hlt
    rw [hm] at this
    injection this with this
    exact this.symm
   have HDR := hHd hdr
   have hz := putBs_step (2 + L) n m (bs.drop (k + 1)) d1
   have hkd := keys_le m n
   have hn1 := hpg.2.1
   have hwp := wait_putPg (2 + L) m (m.keys n) d1
   have kdw : Kp (fun _ => False) wr wr.drew := (Kp.refl _ wr).drew
   have hpw := pwrite_any (F := F) (w := wr.drew) (fun q hq => HF.out q (Nat.le_trans KW.out.size hq)) (hpg.still kdw) (HG.out g hgG) (DW.out.still kdw) L HL.out (by have := HWT.out; have := HWT1.out; have := HLEN.out; omega)
   have hwp2 : (Dm.putPg (2 + L) m (m.keys n) d1).1.wait.length <= d1.wait.length + 1024 := by omega
   generalize Dm.putPg (2 + L) m (m.keys n) d1 = z at hz hpw hwp2
   obtain ⟨d2, ec⟩ := z
   dsimp only at hz hpw hwp2
   have HPW := hHd hpw
   have HST := hHd hz
   have HWT2 := hHd hwp2
   have BD := hHd (Box.kp BW.out kdw (fun e => e))
   have OBD := hHd (show wr.drew.cell? ⟨go, 0, none⟩ = some (.pointer (some ⟨gs, 0, none⟩)) from BD.out.cell 0)
   have SD := hHd (SW.out.still kdw)
   have LGD := hHd (Box.kp LW.out kdw (fun e => e))
   have BTD := hHd (TW.out.kp kdw (fun _ _ e => e))
   have KWD := hHd (KW.out.trans (kdw.of_false (S := F)))
   clear hm hms hrr hAG hall hg hgG hpg hcell hdr hz hkd hn1 hwp kdw hpw hwp2
   go_upto_region 4 with fail
   refine wp_region_held_drew (S := fun v => v.cell? ⟨go, 0, none⟩ = some (.pointer (some ⟨gs, 0, none⟩)) /\ Stb v gs gl b note um vl vc cm dead) (by kernel_rfl) (⟨OBD.out, SD.out⟩) (fun hHeld => ?_)
   refine tk 0 (h := ?_)
   refine tk 1 (h := ?_)
   refine tk 2 (h := ?_)
   refine tk 3 (h := ?_)
   refine tk 4 (v := ?_) (hy := ?_) (h := ?_)
   rotate_left
   ·intro v hSw
    have y := hSw.1
    go_simp
    with_reducible rfl
   refine tk 5 (h := ?_)
   refine tk 6 (h := ?_)
   refine tk 7 (v := ?_) (hy := ?_) (h := ?_)
   rotate_left
   ·intro v hSw
    have y := (Stb.cells hSw.2).2.1
    go_simp
    with_reducible rfl
   refine tk 8 (h := ?_)
   refine tk 9 (h := ?_)
   refine tk 10 (h := ?_)
   refine tk 11 (v := ?_) (hy := ?_) (h := ?_)
   rotate_left
   ·intro v hSw
    have y := hSw.1
    go_simp
    with_reducible rfl
   refine tk 12 (h := ?_)
   refine tk 13 (h := ?_)
   refine tk 14 (v := ?_) (hy := ?_) (h := ?_)
   rotate_left
   ·intro v hSw
    have y := (Stb.cells hSw.2).1
    go_simp
    with_reducible rfl
   refine rd 15 (h := fun K hK => ?_)
   go_simp
   refine (lsectors_any LGD.out).mono ?_
   rintro e w9 ⟨rfl, rfl⟩
   rw [HLN.out]
   go_wp2_with fail
   refine hK.out _ _ (⟨OBD.out, SD.out⟩) (fun hHeld1 => ?_)
   clear hK K
   try simp only [Act.put, sIa, sI0, sI1]
   refine rd 16 (h := fun K hK => ?_)
   go_simp
   refine HPW.out.mono ?_
   rintro e w5 ⟨rfl, hd5, hk5⟩
   have D5 := hHd hd5
   have K5 := hHd (KWD.out.trans hk5)
   have B5 := hHd (Box.kp BD.out hk5 HFO.out)
   have OB5 := hHd (show w5.cell? ⟨go, 0, none⟩ = some (.pointer (some ⟨gs, 0, none⟩)) from B5.out.cell 0)
   have S5 := hHd (SD.out.kp hk5 HFS.out)
   have L5 := hHd (Box.kp LGD.out hk5 HFL.out)
   have BT5 := hHd (BTD.out.kp hk5 HG.out)
   clear hd5 hk5
   go_wp2_with fail
   refine hK.out _ _ (⟨OB5.out, S5.out⟩) (fun hHeld2 => ?_)
   clear hK K
   try simp only [Act.put, sIa, sI0, sI1]
   refine tk 17 (h := ?_)
   refine wpAnyH_done (by kernel_rfl) ?_ _
   clear hHeld
   by_cases he : ec = 0
   ·subst he
    go_wp2_with fail
    go_roundw
    case measure =>
     simp only [Go.RowKit.intOf]
     omega
    case rel =>
     refine ⟨k + 1, d2, by omega, by go_num, D5.out, K5.out, ?_, by have := HWT1.out; have := HWT2.out; omega⟩
     rw [HEQ.out, HDR.out, HST.out]
     rfl
   ·have hne : (ec != 0) = true := by simpa using he
    clear he
    go_wp2_with fail
    go_ret
    have e2 : Dm.putBs (2 + L) n bs d = (d2, ec) := by
     rw [HEQ.out, HDR.out, HST.out]
     rw [if_neg (by simpa using hne)]
    rw [e2]
    exact ⟨rfl, D5.out, K5.out⟩
  ·have hkb : k = bs.length := by omega
   subst hkb
   have hq := HEQ.out
   rw [List.drop_length] at hq
   have HQ := hHd hq
   clear hq
   go_wp2_with fail
   go_ret
   rw [HQ.out]
   exact ⟨rfl, DW.out, KW.out⟩
end Go.Proofs.YtepaeliamhjgiaaGreatDoor
