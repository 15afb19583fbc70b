/- WalKeeps' walk: for every number of sectors and every slice of acts the law returns true. Condition: the table of half bytes reads as the program's text lays it. -/
import Derived.Test.YtfcljcikajaedaaGreatDoorMg45
namespace Go.Proofs.YtfcljcikajaedaaGreatDoor
open Go.RowKit Go.Maps

/-- A disk that lost its power: what its log's texts may be. -/
structure CutS (d : Dm) (all : List (List UInt8)) (p : List UInt8) (dd : Int) (N M : Nat) : Prop where
  ex : ∃ u, Wc d.on u N ∧ MayU u all p dd ∧ u.length ≤ M ∧ all.length ≤ M ∧ d.wait = [] ∧ d.lit = false
theorem CutS.out {d : Dm} {all : List (List UInt8)} {p : List UInt8} {dd : Int} {N M : Nat} (h : CutS d all p dd N M) : ∃ u, Wc d.on u N ∧ MayU u all p dd ∧ u.length ≤ M ∧ all.length ≤ M ∧ d.wait = [] ∧ d.lit = false := h.ex
theorem Km.act {B : Nat} {w W W' : World} {gs g b ga : Nat} {va : Value} {all : List (List UInt8)} {d : Dm} {l : Lm} {cs : Array Value} (h : Km B w gs g b va all d l W) (hb : Box W ga 30 cs) (hB : B ≤ ga) (hk : Kp (fun k => k = ga) W W') : Km B w gs g b va all d l W' := by
  obtain ⟨cs', hs, hc⟩ := h.st
  have ne : ∀ {k : Nat} {t : TypeId} {cs : Array Value}, Box W k t cs → t ≠ 30 → Box W' k t cs := fun {k t cs} hx hne => hx.kp hk (Box.type_ne hx hb hne)
  exact ⟨⟨cs', ne hs (by decide), hc⟩, h.dk.off hb ⟨by decide, by decide, by decide⟩ hk, ne h.lg (by decide), down_kp h.row hk (fun k e e' => hb.own_ne h.row (by decide) (by rw [e, e'])), h.gB, h.sB, h.kp.trans (hk.mono fun k _ e => by rw [e]; exact hB)⟩
theorem fuse_on (d : Dm) (a : Int) (k : List UInt8) : (d.fuseS a k).1.on = d.on ∧ (d.fuseS a k).1.wait = d.wait ∧ (d.fuseS a k).1.power = d.power := by
  unfold Dm.fuseS
  split <;> exact ⟨rfl, rfl, rfl⟩
theorem crash_on (d : Dm) (h : Up d) (k : List UInt8) : (d.crashS k).1.on = d.on ∧ (d.crashS k).1.wait = [] ∧ (d.crashS k).1.lit = false := by
  unfold Dm.crashS
  rw [h.power, Bool.not_true, if_neg (by decide)]
  refine ⟨?_, rfl, rfl⟩
  show settleL (bitOf k) d.on d.wait = d.on
  rw [h.wait]
  rfl

set_option maxRecDepth 100000 in
set_option maxHeartbeats 16000000 in
theorem keeps_main (n : Nat) (h98 : 98 ≤ n) (h160 : n ≤ 160) (A : Option Addr) (acts : List Aw) (c : Nat) (w : World) (h : Aws w w.heap.size A acts) (hc : acts.length ≤ c) (hm : c ≤ maxLen) (hg : greatW acts = false) (ht : Tbl w) :
    Calls Tryz.prog 4 #[.int .u8 n, .slice A acts.length c] w fun e w' => e = .returned (.bool true) ∧ Kp (fun k => w.heap.size ≤ k) w w' := by
  have HT := Lib.hid ht
  have HC := Lib.hid h
  have hgr := greatw_any h c hc hm
  rw [hg] at hgr
  have HNG := Lib.hid (not_greatW hg)
  have hl30 : acts.length ≤ 30 := (not_greatW hg).1
  unfold maxLen at hm
  clear ht h hg
  obtain ⟨f1, _, f3, f4, l0, o1, w0, x0, x1, x2, _⟩ := format_new (newDm_up n) (newDm_lit n) 96 n (newDm_on n) [] (by decide) (by decide) (by omega) (by decide)
  obtain ⟨d1, e1⟩ : ∃ d1, ((newDm n).formatS ((96 : Nat) : Int) []).1 = d1 := ⟨_, rfl⟩
  rw [e1] at f3 f4 o1 w0
  have HFM := Lib.hid (show (newDm n).formatS 96 [] = (d1, 0) from pair_eta _ _ _ e1 f1)
  obtain ⟨t1, t2⟩ := trim_unlit w0 x0 f3 f4
  obtain ⟨r, hr⟩ : ∃ r, l0.trimS d1 = r := ⟨_, rfl⟩
  obtain ⟨l1, d2, r2⟩ := r
  have hto := trim_out w0 (by decide) x0 f3
  rw [hr] at t1 t2 hto
  dsimp only at t1 t2 hto
  subst t1
  have hto2 : Wi d2.on l1 [] 2 ∧ Up d2 := by
    rcases hto with ⟨_, a, b⟩ | ⟨hz, _⟩
    · exact ⟨a, b⟩
    · cases hz
  have HR1 := Lib.hid hr
  have HWI1 := Lib.hid hto2.1
  have HUP1 := Lib.hid hto2.2
  have HO1 := Lib.hid o1
  have HU1 := Lib.hid f3
  have HSM1 := Lib.hid (heads_small f3.wait w0 (by decide))
  have LOK0 := Lib.hid (lm_ok w0 (by decide) (by rw [x1]; decide))
  clear f1 f3 f4 o1 w0 x0 x1 x2 e1 t2 hr hto hto2
  have hd1 : ¬ ((n : Int) < 98) := by omega
  have hd2 : ¬ (160 < (n : Int)) := by omega
  go_enter Tryz.func4, Tryz.ntmps4
  go_wp2_with fail
  refine hgr.mono ?_
  clear hgr
  rintro e w1 ⟨rfl, rfl⟩
  go_wp2_with fail
  refine (begin_any n (by omega) (by omega) w).mono ?_
  rintro e w1 ⟨gs, b, vo, vw, rfl, hd, hs, _, hgs, hk⟩
  have D1 := Lib.hid hd
  have S1 := Lib.hid hs
  have K1 := Lib.hid (hk.of_false (S := fun k => w.heap.size ≤ k))
  have T1 := Lib.hid (HT.out.kp hk (fun e => e))
  have hgs' := hk.size
  clear hd hs hk
  have s0 : w1.cell? ⟨gs, 0, none⟩ = some (.pointer (some ⟨b, 0, none⟩)) := S1.out.cell 0
  go_wp2_with fail
  clear s0
  have hfo := format_any (F := fun k => w.heap.size ≤ k ∧ DT w1 k) (newG (newB K1.out.size) (Nat.le_refl _)) D1.out.bothG T1.out 96 [] (by show 0 + 1 < _; decide)
  rw [HFM.out] at hfo
  refine hfo.mono ?_
  clear hfo
  rintro e w2 ⟨rfl, hd, hk⟩
  have D2 := Lib.hid (hd.mono (F' := fun k => w.heap.size ≤ k) (fun _ e => e.1))
  have S2 := Lib.hid (S1.out.kp hk (fun e => not_DT S1.out ⟨by decide, by decide, by decide⟩ e.2))
  have K2 := Lib.hid (K1.out.trans (hk.mono (fun _ _ e => e.1)))
  have T2 := Lib.hid (HT.out.kp K2.out (fun e => by have := halves_old HT.out; omega))
  clear hd hk
  have s0 : w2.cell? ⟨gs, 0, none⟩ = some (.pointer (some ⟨b, 0, none⟩)) := S2.out.cell 0
  go_wp2_with fail
  clear s0
  have hop := open_any D2.out T2.out HSM1.out
  rw [HO1.out] at hop
  refine hop.mono ?_
  clear hop
  rintro e w3 ⟨g, v, rfl, hb3, hr3, hg3, hk⟩
  obtain ⟨At, ct, rfl⟩ := own_shape3 hr3
  have M3 := Lib.hid (show Km w.heap.size w gs g b (.slice At 0 ct) [] d1 l0 w3 from ⟨⟨_, S2.out.kp hk (fun e => e), rfl⟩, D2.out.still hk, hb3, own_base' hr3 K2.out.size, Nat.le_trans K2.out.size hg3, hgs, K2.out.trans hk.of_false⟩)
  rw [show (([] : List (List UInt8)).length) = 0 from rfl]
  clear hb3 hr3 hg3 hk
  go_wp2_with fail
  have htr := trim_any (F := fun k => w.heap.size ≤ k ∧ DT w3 k) M3.out.new M3.out.dk.bothG (M3.out.tbl HT.out rfl) M3.out.lg LOK0.out (by rw [HU1.out.wait]; decide)
  rw [HR1.out] at htr
  refine htr.mono ?_
  clear htr
  rintro e w4 ⟨rfl, hd, hb, hk⟩
  have M4 := Lib.hid (M3.out.turn hd hb hk).rowNil
  clear hd hb hk
  go_wp2_with fail
  obtain ⟨i0, hi0, hz0, hz1, hz2⟩ := strInf
  go_loopg [8, 11, 12] acts.length (fun gh s8 s11 s12 wx => ∃ (i g : Nat) (all : List (List UInt8)) (d : Dm) (l : Lm) (ss : List Sh), i + gh = acts.length ∧ s12 = .int .i64 i ∧ s8 = .pointer (some ⟨g, 0, none⟩) ∧ Km w.heap.size w gs g b s11 all d l wx ∧ Wi d.on l ss (2 + 600 * i) ∧ parse [] ss = all ∧ Up d ∧ all.length ≤ i)
  case atStart => exact ⟨0, g, [], d2, l1, [], by omega, rfl, rfl, M4.out, HWI1.out, rfl, HUP1.out, Nat.le_refl _⟩
  case round =>
    rename Nat => g0
    obtain ⟨i, g, all, d, l, ss, hig, rfl, rfl, hm, hwi, hpar, hup, hall⟩ := hrel
    rename World => wr
    have MK := Lib.hid hm
    have HWI := Lib.hid hwi
    have HPAR := Lib.hid hpar
    have HUP := Lib.hid hup
    have HALL := Lib.hid hall
    have HIG := Lib.hid hig
    clear hm hwi hpar hup hall hig
    by_cases hlt : i < acts.length
    · have hi30 : i < 30 := by omega
      obtain ⟨bA, oA, hA, _, hcell⟩ : ∃ b o, A = some ⟨b, o, none⟩ ∧ b < w.heap.size ∧ ∀ i x, acts[i]? = some x → ∀ j v, x.cells[j]? = some v → wr.cell? ⟨b, o + i * 4 + j, none⟩ = some v := by
        rcases (HC.out.keep (fun k hk => MK.out.kp.block k hk (by omega))).2 with h0 | h0
        · subst h0; simp at hlt
        · exact h0
      subst hA
      obtain ⟨x, hx⟩ : ∃ x, acts[i]? = some x := ⟨_, List.getElem?_eq_getElem hlt⟩
      have XOK := Lib.hid (HC.out.1 x (List.mem_of_getElem? hx))
      have e0 : wr.cell? ⟨bA, oA + i * 4, none⟩ = some (.int .u8 x.d) := hcell i x hx 0 _ rfl
      have e1 : wr.cell? ⟨bA, oA + i * 4 + 1, none⟩ = some (.int .i64 x.n) := hcell i x hx 1 _ rfl
      have e2 : wr.cell? ⟨bA, oA + i * 4 + 2, none⟩ = some (.int .u8 x.c.toNat) := hcell i x hx 2 _ rfl
      have e3 : wr.cell? ⟨bA, oA + i * 4 + 3, none⟩ = some (.string ⟨x.keep.toArray⟩) := hcell i x hx 3 _ rfl
      have HKP := Lib.hid (show x.keep.length ≤ maxLen from XOK.out.k1)
      obtain ⟨dd, hdd⟩ : ∃ dd, x.d = dd := ⟨_, rfl⟩
      obtain ⟨nn, hnn⟩ : ∃ nn, x.n = nn := ⟨_, rfl⟩
      obtain ⟨cc, hcc⟩ : ∃ cc, x.c = cc := ⟨_, rfl⟩
      obtain ⟨kp, hkp⟩ : ∃ kp, x.keep = kp := ⟨_, rfl⟩
      rw [hdd] at e0
      rw [hnn] at e1
      rw [hcc] at e2
      rw [hkp] at e3 HKP
      have HX := Lib.hid (And.intro hdd (And.intro hnn (And.intro hcc hkp)))
      have hn1 : nn < 9223372036854775808 := by have := XOK.out.n1; rw [hnn] at this; omega
      have HN1 := Lib.hid hn1
      obtain ⟨pA, hpA⟩ : ∃ p, oA + i * 4 = p := ⟨_, rfl⟩
      rw [hpA] at e0 e1 e2 e3
      clear hcell hx hdd hnn hcc hkp hn1
      have GA := Lib.hid (Box.new wr 30 #[.int .u8 dd, .int .i64 nn, .int .u8 cc.toNat, .string ⟨kp.toArray⟩])
      have M0 := Lib.hid (MK.out.still ((Kp.refl (fun _ => False) wr).alloc (.cells #[.int .u8 dd, .int .i64 nn, .int .u8 cc.toNat, .string ⟨kp.toArray⟩] 30)))
      have hga : w.heap.size ≤ wr.heap.size := MK.out.kp.size
      go_upto_region 15 with fail
      clear e0 e1 e2 e3 hpA
      generalize wr.alloc (.cells #[.int .u8 dd, .int .i64 nn, .int .u8 cc.toNat, .string ⟨kp.toArray⟩] 30) = w0 at *
      generalize hgg : wr.heap.size = ga at *
      clear hgg
      have a0 := GA.out.cell 0
      simp at a0
      have a1 := GA.out.cell 1
      have a2 := GA.out.cell 2
      have a3 := GA.out.cell 3
      simp at a1 a2 a3
      obtain ⟨A1, c1, rfl⟩ := own_shape3 M0.out.row
      by_cases h0 : dd = 0
      · subst h0
        obtain ⟨tx, htx⟩ : ∃ tx, x.text = tx := ⟨_, rfl⟩
        have HTL := Lib.hid (show tx.length ≤ 1000000 by have := x.len_lt; rw [← htx, Aw.text_length]; omega)
        have HTX := Lib.hid htx
        clear htx
        go_wp2_with fail
        have htx := text_act x w0
        simp only [Aw.cells] at htx
        rw [HX.out.1, HX.out.2.1, HX.out.2.2.1, HX.out.2.2.2, HTX.out] at htx
        refine htx.mono ?_
        clear htx
        rintro e w1 ⟨rfl, hk⟩
        have M1 := Lib.hid (M0.out.still hk)
        have A1' := Lib.hid (GA.out.kp hk (fun e => e))
        clear hk

        have hout := commit_out HWI.out tx (by omega) HUP.out
        have hco := commit_any (F := fun k => w.heap.size ≤ k ∧ DT w1 k) M1.out.new (fun e => by have := halves_old HT.out; have := e.1.1; omega) M1.out.dk.bothG (M1.out.tbl HT.out rfl) M1.out.lg (lm_ok HWI.out.o (by omega) (by have := HWI.out.few; have := HWI.out.o.hok.hi; omega)) tx HTL.out (by rw [HUP.out.wait]; decide)
        obtain ⟨r, hr⟩ : ∃ r, l.commitS d tx = r := ⟨_, rfl⟩
        rw [hr] at hout hco
        obtain ⟨l1, d1, e1⟩ := r
        dsimp only at hout hco
        have HOUT := Lib.hid hout
        clear hout hr
        go_wp2_with fail
        refine hco.mono ?_
        clear hco
        rintro e w2 ⟨rfl, hd, hb, hk⟩
        have M2 := Lib.hid (M1.out.turn hd hb hk)
        have A2 := Lib.hid (M1.out.other A1'.out ⟨by decide, by decide, by decide⟩ (by decide) hk)
        clear hd hb hk a0 a1 a2 a3
        have a0 := A2.out.cell 0
        have a1 := A2.out.cell 1
        have a2 := A2.out.cell 2
        have a3 := A2.out.cell 3
        simp at a0 a1 a2 a3
        rcases HOUT.out with ⟨rfl, ⟨ss', hwi2, hpar2⟩, hup2⟩ | ⟨h56, heq⟩ | ⟨rfl, hwc2, hoff2⟩
        · have HWI2 := Lib.hid hwi2
          have HPAR2 := Lib.hid hpar2
          have HUP2 := Lib.hid hup2
          clear hwi2 hpar2 hup2 HOUT
          go_wp2_with fail
          have htx := text_act x w2
          simp only [Aw.cells] at htx
          rw [HX.out.1, HX.out.2.1, HX.out.2.2.1, HX.out.2.2.2, HTX.out] at htx
          refine htx.mono ?_
          clear htx
          rintro e w3 ⟨rfl, hk⟩
          have M3 := Lib.hid (M2.out.still hk)
          have A3 := Lib.hid (A2.out.kp hk (fun e => e))
          clear hk

          have MA := Lib.hid (M3.out.still ((Kp.refl (fun _ => False) w3).alloc (.cells #[.string ⟨tx.toArray⟩] 9)))
          have AA := Lib.hid (A3.out.kp ((Kp.refl (fun _ => False) w3).alloc (.cells #[.string ⟨tx.toArray⟩] 9)) (fun e => e))
          clear a0 a1 a2 a3
          go_wp2_with (at_builtin; go_must (refine wpList_append_own _ rfl (.tmp 95) (.tmp 98) 33 rfl w.heap.size 9 i0 (.string ⟨#[]⟩) 1 16 Tryz.underlying33 hi0 hz0 hz1 hz2 rfl (by decide) (.slice A1 all.length c1) all.length (strs all) rfl MA.out.row ⟨w3.heap.size, 0, none⟩ 1 1 [.string ⟨tx.toArray⟩] rfl rfl (cell_one_new _ _ _) (by intro u hu; simp only [List.mem_cons, List.not_mem_nil, or_false] at hu; subst hu; rfl) (by have := HALL.out; unfold maxLen; omega) (by have := HALL.out; omega) MA.out.kp.size ?_; intro v' w4 hown4 hgr4 _; have kg := (Kp.refl (fun k => (Value.slice A1 all.length c1).ownBlock = some k) _).grown hgr4 (fun k e => .inr e); have A4 := Lib.hid (AA.out.kp kg (fun e => by obtain ⟨cur, hc⟩ := own_block MA.out.row e; exact ne_type AA.out hc (by decide) rfl)); have M4 := Lib.hid (MA.out.rowSet (all' := all ++ [tx]) (by rw [List.length_append, List.length_cons, List.length_nil, show strs (all ++ [tx]) = strs all ++ [.string ⟨tx.toArray⟩] by simp [strs]]; exact hown4) kg); have a0 := A4.out.cell 0; have a1 := A4.out.cell 1; have a2 := A4.out.cell 2; have a3 := A4.out.cell 3; simp at a0 a1 a2 a3; clear hown4 hgr4 kg))
          clear a0 a1 a2 a3
          have htx := text_act x w4
          simp only [Aw.cells] at htx
          rw [HX.out.1, HX.out.2.1, HX.out.2.2.1, HX.out.2.2.2, HTX.out] at htx
          refine htx.mono ?_
          clear htx
          rintro e w5 ⟨rfl, hk⟩
          have M5 := Lib.hid (M4.out.still hk)
          have A5 := Lib.hid (A4.out.kp hk (fun e => e))
          clear hk

          go_wp2_with fail
          go_roundg (acts.length - (i + 1))
          case measure => have := HIG.out; omega
          case rel => exact ⟨i + 1, g, all ++ [tx], d1, l1, ss', by have := HIG.out; omega, by go_num, rfl, M5.out, HWI2.out.mono (by omega), by rw [HPAR2.out, HPAR.out], HUP2.out, by have := HALL.out; simp; omega⟩
        · injection heq with q1 q2
          injection q2 with q2 _
          have q1 := q1.symm
          have q2 := q2.symm
          subst q1 q2
          clear HOUT
          have h50 : (e1 == 0) = false := by simp; omega
          have h54 : (e1 == 4) = false := by simp; omega
          clear h56
          go_wp2_with fail
          clear a0 a1 a2 a3
          have htx := text_act x w2
          simp only [Aw.cells] at htx
          rw [HX.out.1, HX.out.2.1, HX.out.2.2.1, HX.out.2.2.2, HTX.out] at htx
          refine htx.mono ?_
          clear htx
          rintro e w3 ⟨rfl, hk⟩
          have M3 := Lib.hid (M2.out.still hk)
          have A3 := Lib.hid (A2.out.kp hk (fun e => e))
          clear hk

          go_wp2_with fail
          go_roundg (acts.length - (i + 1))
          case measure => have := HIG.out; omega
          case rel => exact ⟨i + 1, g, all, d, l, ss, by have := HIG.out; omega, by go_num, rfl, M3.out, HWI.out.mono (by omega), HPAR.out, HUP.out, by have := HALL.out; omega⟩
        · have HW2 := Lib.hid hwc2
          have HOFF := Lib.hid hoff2
          clear hwc2 hoff2 HOUT
          go_wp2_with fail
          clear a0 a1 a2 a3
          have htx := text_act x w2
          simp only [Aw.cells] at htx
          rw [HX.out.1, HX.out.2.1, HX.out.2.2.1, HX.out.2.2.2, HTX.out] at htx
          refine htx.mono ?_
          clear htx
          rintro e w3 ⟨rfl, hk⟩
          have M3 := Lib.hid (M2.out.still hk)
          have A3 := Lib.hid (A2.out.kp hk (fun e => e))
          clear hk

          go_wp2_with fail
          go_loopg [8, 11, 14, 18] 3 (fun gi s8 s11 s14 s18 wx => ∃ (k g' : Nat) (all' : List (List UInt8)) (p : List UInt8) (dd : Int) (d' : Dm) (l' : Lm), k + gi = 3 ∧ k ≤ 2 ∧ s18 = .int .i64 k ∧ s14 = .string ⟨p.toArray⟩ ∧ s8 = .pointer (some ⟨g', 0, none⟩) ∧ Km w.heap.size w gs g' b s11 all' d' l' wx ∧ Box wx ga 30 #[.int .u8 dd, .int .i64 nn, .int .u8 cc.toNat, .string ⟨kp.toArray⟩] ∧ CutS d' all' p dd (2 + 600 * i + 512 + 2 * k) (i + 1))
          case atStart => 
            have CT := Lib.hid (show CutS d1 all tx 0 (2 + 600 * i + 512 + 2 * 0) (i + 1) from by
              have hl := HALL.out
              have h3 := HW2.out
              rw [HPAR.out] at h3
              rcases h3 with h3 | h3
              · exact ⟨all, h3, .inr (.inl rfl), by omega, by omega, HOFF.out.wait, HOFF.out.lit⟩
              · exact ⟨all ++ [tx], h3, .inr (.inr ⟨rfl, rfl⟩), by simp; omega, by omega, HOFF.out.wait, HOFF.out.lit⟩)
            exact ⟨0, g, all, tx, 0, d1, l1, by omega, by omega, rfl, rfl, rfl, M3.out, A3.out, CT.out⟩
          case round =>
            obtain ⟨k, g', all', p, dd, d', l', hkg, hk2, rfl, rfl, rfl, hm, hga, hcut⟩ := hrel
            rename World => wx
            have MK := Lib.hid hm
            have GA := Lib.hid hga
            have CU := Lib.hid hcut
            have HKG := Lib.hid hkg
            obtain ⟨A2, c2, rfl⟩ := own_shape3 hm.row
            clear hm hga hcut hkg
            have hk3 : (k : Int) < 3 := by omega
            have s0 := MK.out.st0
            go_wp2_with fail
            clear s0
            refine (start_any MK.out.dk.bothG).mono ?_
            rintro e w1 ⟨rfl, hd, hk⟩
            have M1 := Lib.hid (MK.out.disk hd hk)
            have A1 := Lib.hid (MK.out.other GA.out ⟨by decide, by decide, by decide⟩ (by decide) (hk.orG g'))
            clear hd hk
            obtain ⟨d1, hd1⟩ : ∃ d1, d'.startS = d1 := ⟨_, rfl⟩
            rw [hd1] at M1
            obtain ⟨u, hwc, hmay, hul, hal, hwt, hlit⟩ := CU.out
            have UP := Lib.hid (show Up d1 by rw [← hd1]; exact ⟨rfl, hwt⟩)
            have LIT := Lib.hid (show d1.lit = false by rw [← hd1]; exact hlit)
            obtain ⟨l2, ho2, hwo, hdd2, hlf2, htx2⟩ := open_out (d := d1) (by rw [← hd1]; exact hwc) (by omega) UP.out
            have HWO := Lib.hid hwo
            have HDD2 := Lib.hid hdd2
            have HTX2 := Lib.hid htx2
            have LOK := Lib.hid (lm_ok hwo (by omega) (by rw [hlf2]; decide))
            have HSM := Lib.hid (heads_small UP.out.wait hwo (by omega))
            have HMAY := Lib.hid hmay
            have HUL := Lib.hid hul
            have HAL := Lib.hid hal
            clear hwc hmay hul hal hwt hlit hwo hdd2 hlf2 htx2 hd1
            have s0 := M1.out.st0
            have hop := open_any M1.out.dk (M1.out.tbl HT.out rfl) HSM.out
            rw [ho2] at hop
            clear ho2
            go_wp2_with fail
            clear s0
            refine hop.mono ?_
            clear hop
            rintro e w2 ⟨g2, v2, rfl, hb2, hr2, hg2, hk⟩
            have M2 := Lib.hid (M1.out.opened hk hb2 hr2 hg2)
            have A2' := Lib.hid (A1.out.kp hk (fun e => e))
            have RA := Lib.hid (RdR.of_own (M1.out.still hk).row)
            have RU := Lib.hid (RdR.of_own hr2)
            obtain ⟨Au, cu, rfl⟩ := own_shape3 hr2
            clear hb2 hr2 hg2 hk
            have a0 := A2'.out.cell 0
            simp at a0
            go_wp2_with fail
            clear a0
            refine (may_true Au A2 cu c2 u all' p dd RU.out RA.out (by have := HUL.out; omega) (by have := HAL.out; omega) HMAY.out).mono ?_
            rintro e w3 ⟨rfl, hk⟩
            have M3 := Lib.hid (M2.out.still hk)
            have A3 := Lib.hid (A2'.out.kp hk (fun e => e))
            clear hk
            have a1 := A3.out.cell 1
            simp at a1
            obtain ⟨rm, hrm⟩ : ∃ rm, nn.tmod 3 = rm := ⟨_, rfl⟩
            by_cases hfz : k < 2 ∧ rm = (k : Int)
            · obtain ⟨hf1, hf2⟩ := hfz
              have hf1' : (k : Int) < 2 := by omega
              subst hf2
              go_upto_region 45 with fail
              clear a1 hrm
              refine wp_region_held_drew (S := fun v => v.cell? ⟨gs, 0, none⟩ = some (.pointer (some ⟨b, 0, none⟩)) ∧ v.cell? ⟨ga, 1, none⟩ = some (.int .i64 nn) ∧ v.cell? ⟨ga, 3, none⟩ = some (.string ⟨kp.toArray⟩)) (by kernel_rfl) (⟨M3.out.st0, A3.out.cell 1, A3.out.cell 3⟩) (fun hHeld => ?_)
              refine wpAnyH_take (i := 0) (oi := { dst := some 178, op := Op.move (Operand.tmp 6), type := 25, pos := "law.go:229", after := #[], guard := none }) (v := ?_) rfl (by kernel_rfl) (by kernel_rfl) (by kernel_rfl) (fun _ _ _ h => h) (Or.inl ⟨by rfl, ?_⟩) (by assumption) ?_
              rotate_left
              · intro v hSw
                try dsimp only at hSw
                go_simp
                with_reducible rfl
              try simp only [Act.put, List.setIfInBounds_toArray, List.set_cons_zero, List.set_cons_succ]
              refine wpAnyH_take (i := 1) (oi := { dst := some 179, op := Op.nilCheck (Operand.tmp 178), type := 0, pos := "law.go:229", after := #[{ on := 0, ground := Ground.data }], guard := none }) (v := ?_) rfl (by kernel_rfl) (by kernel_rfl) (by kernel_rfl) (fun _ _ _ h => h) (Or.inl ⟨by rfl, ?_⟩) (by assumption) ?_
              rotate_left
              · intro v hSw
                try dsimp only at hSw
                go_simp
                with_reducible rfl
              try simp only [Act.put, List.setIfInBounds_toArray, List.set_cons_zero, List.set_cons_succ]
              refine wpAnyH_take (i := 2) (oi := { dst := some 180, op := Op.fieldAddr 44 (Operand.tmp 179) 0, type := 0, pos := "law.go:229", after := #[{ on := 1, ground := Ground.data }], guard := none }) (v := ?_) rfl (by kernel_rfl) (by kernel_rfl) (by kernel_rfl) (fun _ _ _ h => h) (Or.inl ⟨by rfl, ?_⟩) (by assumption) ?_
              rotate_left
              · intro v hSw
                try dsimp only at hSw
                go_simp
                with_reducible rfl
              try simp only [Act.put, List.setIfInBounds_toArray, List.set_cons_zero, List.set_cons_succ]
              refine wpAnyH_take (i := 3) (oi := { dst := some 181, op := Op.load 32 (Operand.tmp 180), type := 32, pos := "law.go:229", after := #[{ on := 2, ground := Ground.data }], guard := none }) (v := ?_) rfl (by kernel_rfl) (by kernel_rfl) (by kernel_rfl) (fun _ _ _ h => h) (Or.inl ⟨by rfl, ?_⟩) (by assumption) ?_
              rotate_left
              · intro v hSw
                try dsimp only at hSw
                go_simp
                with_reducible rfl
              try simp only [Act.put, List.setIfInBounds_toArray, List.set_cons_zero, List.set_cons_succ]
              refine wpAnyH_take (i := 4) (oi := { dst := some 182, op := Op.move (Operand.tmp 18), type := 3, pos := "law.go:229", after := #[], guard := none }) (v := ?_) rfl (by kernel_rfl) (by kernel_rfl) (by kernel_rfl) (fun _ _ _ h => h) (Or.inl ⟨by rfl, ?_⟩) (by assumption) ?_
              rotate_left
              · intro v hSw
                try dsimp only at hSw
                go_simp
                with_reducible rfl
              try simp only [Act.put, List.setIfInBounds_toArray, List.set_cons_zero, List.set_cons_succ]
              refine wpAnyH_take (i := 5) (oi := { dst := some 183, op := Op.fieldAddr 30 (Operand.tmp 13) 3, type := 0, pos := "law.go:229", after := #[], guard := none }) (v := ?_) rfl (by kernel_rfl) (by kernel_rfl) (by kernel_rfl) (fun _ _ _ h => h) (Or.inl ⟨by rfl, ?_⟩) (by assumption) ?_
              rotate_left
              · intro v hSw
                try dsimp only at hSw
                go_simp
                with_reducible rfl
              try simp only [Act.put, List.setIfInBounds_toArray, List.set_cons_zero, List.set_cons_succ]
              refine wpAnyH_take (i := 6) (oi := { dst := some 184, op := Op.load 9 (Operand.tmp 183), type := 9, pos := "law.go:229", after := #[{ on := 5, ground := Ground.data }], guard := none }) (v := ?_) rfl (by kernel_rfl) (by kernel_rfl) (by kernel_rfl) (fun _ _ _ h => h) (Or.inl ⟨by rfl, ?_⟩) (by assumption) ?_
              rotate_left
              · intro v hSw
                try dsimp only at hSw
                go_simp
                with_reducible rfl
              try simp only [Act.put, List.setIfInBounds_toArray, List.set_cons_zero, List.set_cons_succ]
              refine wpAnyH_ready (rs := [7]) (by kernel_rfl) (by simp) ?_
              refine AllReadyH.cons (o := { dst := some 185, op := Op.call { callee := Callee.value (Operand.func 15), args := #[Operand.tmp 181, Operand.tmp 182, Operand.tmp 184], argTypes := #[32, 3, 9] }, type := 47, pos := "law.go:229", after := #[{ on := 3, ground := Ground.data }, { on := 4, ground := Ground.data }, { on := 6, ground := Ground.data }], guard := none }) rfl (fun K hK => ?_) AllReadyH.nil
              go_simp
              have hcl := fuse_any ((M3.out.still (Kp.refl (fun _ => False) _).drew).dk.bothG) (k : Int) (by omega) kp HKP.out
              refine hcl.mono ?_
              clear hcl
              rintro e w4 ⟨rfl, hd, hk⟩
              have M4 := Lib.hid ((M3.out.still (Kp.refl (fun _ => False) _).drew).disk hd hk)
              have A4 := Lib.hid ((M3.out.still (Kp.refl (fun _ => False) _).drew).other A3.out.drew ⟨by decide, by decide, by decide⟩ (by decide) (hk.orG g2))
              clear hd hk
              go_wp2_with fail
              refine hK.out _ _ (⟨M4.out.st0, A4.out.cell 1, A4.out.cell 3⟩) (fun hHeld1 => ?_)
              clear hK K
              try simp only [Act.put, List.setIfInBounds_toArray, List.set_cons_zero, List.set_cons_succ]
              refine wpAnyH_done (by kernel_rfl) ?_ _
              have hfs : (d1.fuseS (k : Int) kp).1 = { d1 with lit := true, left := k, keep := kp } := by simp [Dm.fuseS]
              obtain ⟨d2, hd2⟩ : ∃ d2, (d1.fuseS (k : Int) kp).1 = d2 := ⟨_, rfl⟩
              rw [hd2] at M4
              have UP2 := Lib.hid (show Up d2 by rw [← hd2, hfs]; exact ⟨UP.out.power, UP.out.wait⟩)
              have ON2 := Lib.hid (show d2.on = d1.on by rw [← hd2, hfs])
              have hsh := trim_short (d := d2) (l := l2) (N := 2 + 600 * i + 512 + 2 * k) (by rw [ON2.out]; exact HWO.out) HDD2.out UP2.out (by rw [← hd2, hfs]) (by rw [← hd2, hfs]; show k ≤ 1; omega)
              have hto := trim_out (d := d2) (l := l2) (N := 2 + 600 * i + 512 + 2 * k) (by rw [ON2.out]; exact HWO.out) (by omega) HDD2.out UP2.out
              rcases hto with ⟨hz, _⟩ | ⟨_, hwc3, hoff⟩
              · rw [hsh] at hz; cases hz
              have HW3 := Lib.hid hwc3
              have HOFF := Lib.hid hoff
              obtain ⟨r, hr⟩ : ∃ r, l2.trimS d2 = r := ⟨_, rfl⟩
              obtain ⟨l3, d3, e3⟩ := r
              rw [hr] at hsh
              dsimp only at hsh
              subst hsh
              have HR := Lib.hid hr
              clear hfs hd2 hwc3 hoff hr
              have a0 := A4.out.cell 0
              have f0 := A4.out.free 0
              simp at a0
              have A5 := Lib.hid (A4.out.put 0 (.int .u8 1))
              have kset := Kp.one w4 ga 0 (.int .u8 1)
              have M5 := Lib.hid (M4.out.act A4.out hga kset)
              clear kset
              go_wp2_with fail
              clear a0 f0
              have htr := trim_any (F := fun k => w.heap.size ≤ k ∧ DT (w4.setCell ⟨ga, 0, none⟩ (.int .u8 1)) k) M5.out.new M5.out.dk.bothG (M5.out.tbl HT.out rfl) M5.out.lg LOK.out (by rw [UP2.out.wait]; decide)
              rw [HR.out] at htr
              generalize w4.setCell ⟨ga, 0, none⟩ (.int .u8 1) = w5 at A5 M5 htr ⊢
              refine htr.mono ?_
              clear htr
              rintro e w6 ⟨rfl, hd, hb, hk⟩
              have M6 := Lib.hid (M5.out.turn hd hb hk)
              have A6 := Lib.hid (M5.out.other A5.out ⟨by decide, by decide, by decide⟩ (by decide) hk)
              clear hd hb hk
              go_wp2_with fail
              go_roundg (3 - (k + 1))
              case measure => have := HKG.out; omega
              case rel =>
                refine ⟨k + 1, g2, u, [], 1, d3, l3, by omega, by omega, by go_num, rfl, rfl, M6.out, A6.out, ?_⟩
                have h3 := HW3.out
                have h4 := HOFF.out
                rw [HR.out] at h3 h4
                rw [ON2.out, HTX2.out] at h3
                rcases h3 with h3 | h3
                · exact ⟨u, h3.mono (by omega), .inr (.inl rfl), HUL.out, HUL.out, h4.wait, h4.lit⟩
                · exact ⟨[], h3.mono (by omega), .inl ⟨rfl, rfl⟩, Nat.zero_le _, HUL.out, h4.wait, h4.lit⟩
            · have htu := trim_unlit HWO.out HDD2.out UP.out LIT.out
              have hto := trim_out HWO.out (by omega) HDD2.out UP.out
              have hto2 : Wi (l2.trimS d1).2.1.on (l2.trimS d1).1 [] (2 + 600 * i + 512 + 2 * k + 1) ∧ Up (l2.trimS d1).2.1 := by
                rcases hto with ⟨_, a, b⟩ | ⟨hz, _⟩
                · exact ⟨a, b⟩
                · rw [htu.1] at hz; cases hz
              clear hto
              obtain ⟨hwi3, hup3⟩ := hto2
              obtain ⟨r, hr⟩ : ∃ r, l2.trimS d1 = r := ⟨_, rfl⟩
              rw [hr] at htu hwi3 hup3
              obtain ⟨l3, d3, e3⟩ := r
              obtain ⟨he3, hlit3⟩ := htu
              dsimp only at he3 hlit3 hwi3 hup3
              subst he3
              have HR := Lib.hid hr
              have HWI := Lib.hid hwi3
              have HUP := Lib.hid hup3
              have htr := trim_any (F := fun k => w.heap.size ≤ k ∧ DT w3 k) M3.out.new M3.out.dk.bothG (M3.out.tbl HT.out rfl) M3.out.lg LOK.out (by rw [UP.out.wait]; decide)
              rw [HR.out] at htr
              clear hr hwi3 hup3 hlit3
              by_cases hf1 : k < 2
              · have hf1' : (k : Int) < 2 := by omega
                have hf2 : (rm == (k : Int)) = false := by simp; omega
                clear hfz
                go_wp2_with fail
                clear a1 hrm
                refine htr.mono ?_
                clear htr
                rintro e w4 ⟨rfl, hd, hb, hk⟩
                have M4 := Lib.hid (M3.out.turn hd hb hk).rowNil
                clear hd hb hk
                go_wp2_with fail
                go_roundg (acts.length - (i + 1))
                case measure => have := HIG.out; omega
                case rel => exact ⟨i + 1, g2, [], d3, l3, [], by have := HIG.out; omega, by go_num, rfl, M4.out, HWI.out.mono (by omega), rfl, HUP.out, Nat.zero_le _⟩
              · have hf1' : ¬ (k : Int) < 2 := by omega
                clear hfz hf1
                go_wp2_with fail
                clear a1 hrm
                refine htr.mono ?_
                clear htr
                rintro e w4 ⟨rfl, hd, hb, hk⟩
                have M4 := Lib.hid (M3.out.turn hd hb hk).rowNil
                clear hd hb hk
                go_wp2_with fail
                go_roundg (acts.length - (i + 1))
                case measure => have := HIG.out; omega
                case rel => exact ⟨i + 1, g2, [], d3, l3, [], by have := HIG.out; omega, by go_num, rfl, M4.out, HWI.out.mono (by omega), rfl, HUP.out, Nat.zero_le _⟩
      by_cases h1 : dd = 1
      · subst h1
        clear h0 a0 a1 a2 a3
        have hout := trim_out HWI.out.o (by omega) HWI.out.alive HUP.out
        have htr := trim_any (F := fun k => w.heap.size ≤ k ∧ DT w0 k) M0.out.new M0.out.dk.bothG (M0.out.tbl HT.out rfl) M0.out.lg (lm_ok HWI.out.o (by omega) (by have := HWI.out.few; have := HWI.out.o.hok.hi; omega)) (by rw [HUP.out.wait]; decide)
        rw [HWI.out.texts] at hout
        obtain ⟨r, hr⟩ : ∃ r, l.trimS d = r := ⟨_, rfl⟩
        rw [hr] at hout htr
        obtain ⟨l1, d1, e1⟩ := r
        dsimp only at hout htr
        have HOUT := Lib.hid hout
        clear hout hr
        have a0 := GA.out.cell 0
        simp at a0
        go_wp2_with fail
        clear a0
        refine htr.mono ?_
        clear htr
        rintro e w2 ⟨rfl, hd, hb, hk⟩
        have M2 := Lib.hid (M0.out.turn hd hb hk)
        have A2 := Lib.hid (M0.out.other GA.out ⟨by decide, by decide, by decide⟩ (by decide) hk)
        clear hd hb hk
        rcases HOUT.out with ⟨rfl, hwi2, hup2⟩ | ⟨rfl, hwc2, hoff2⟩
        · have HWI2 := Lib.hid hwi2
          have HUP2 := Lib.hid hup2
          have M3 := Lib.hid M2.out.rowNil
          clear hwi2 hup2 HOUT
          go_wp2_with fail
          go_roundg (acts.length - (i + 1))
          case measure => have := HIG.out; omega
          case rel => exact ⟨i + 1, g, [], d1, l1, [], by have := HIG.out; omega, by go_num, rfl, M3.out, HWI2.out.mono (by omega), rfl, HUP2.out, Nat.zero_le _⟩
        · have HW2 := Lib.hid hwc2
          have HOFF := Lib.hid hoff2
          clear hwc2 hoff2 HOUT
          go_wp2_with fail
          go_loopg [8, 11, 14, 18] 3 (fun gi s8 s11 s14 s18 wx => ∃ (k g' : Nat) (all' : List (List UInt8)) (p : List UInt8) (dd : Int) (d' : Dm) (l' : Lm), k + gi = 3 ∧ k ≤ 2 ∧ s18 = .int .i64 k ∧ s14 = .string ⟨p.toArray⟩ ∧ s8 = .pointer (some ⟨g', 0, none⟩) ∧ Km w.heap.size w gs g' b s11 all' d' l' wx ∧ Box wx ga 30 #[.int .u8 dd, .int .i64 nn, .int .u8 cc.toNat, .string ⟨kp.toArray⟩] ∧ CutS d' all' p dd (2 + 600 * i + 512 + 2 * k) (i + 1))
          case atStart => 
            have CT := Lib.hid (show CutS d1 all [] 1 (2 + 600 * i + 512 + 2 * 0) (i + 1) from by
              have hl := HALL.out
              have h3 := HW2.out
              rw [HPAR.out] at h3
              rcases h3 with h3 | h3
              · exact ⟨all, h3.mono (by omega), .inr (.inl rfl), by omega, by omega, HOFF.out.wait, HOFF.out.lit⟩
              · exact ⟨[], h3.mono (by omega), .inl ⟨rfl, rfl⟩, Nat.zero_le _, by omega, HOFF.out.wait, HOFF.out.lit⟩)
            exact ⟨0, g, all, [], 1, d1, l1, by omega, by omega, rfl, rfl, rfl, M2.out, A2.out, CT.out⟩
          case round =>
            obtain ⟨k, g', all', p, dd, d', l', hkg, hk2, rfl, rfl, rfl, hm, hga, hcut⟩ := hrel
            rename World => wx
            have MK := Lib.hid hm
            have GA := Lib.hid hga
            have CU := Lib.hid hcut
            have HKG := Lib.hid hkg
            obtain ⟨A2, c2, rfl⟩ := own_shape3 hm.row
            clear hm hga hcut hkg
            have hk3 : (k : Int) < 3 := by omega
            have s0 := MK.out.st0
            go_wp2_with fail
            clear s0
            refine (start_any MK.out.dk.bothG).mono ?_
            rintro e w1 ⟨rfl, hd, hk⟩
            have M1 := Lib.hid (MK.out.disk hd hk)
            have A1 := Lib.hid (MK.out.other GA.out ⟨by decide, by decide, by decide⟩ (by decide) (hk.orG g'))
            clear hd hk
            obtain ⟨d1, hd1⟩ : ∃ d1, d'.startS = d1 := ⟨_, rfl⟩
            rw [hd1] at M1
            obtain ⟨u, hwc, hmay, hul, hal, hwt, hlit⟩ := CU.out
            have UP := Lib.hid (show Up d1 by rw [← hd1]; exact ⟨rfl, hwt⟩)
            have LIT := Lib.hid (show d1.lit = false by rw [← hd1]; exact hlit)
            obtain ⟨l2, ho2, hwo, hdd2, hlf2, htx2⟩ := open_out (d := d1) (by rw [← hd1]; exact hwc) (by omega) UP.out
            have HWO := Lib.hid hwo
            have HDD2 := Lib.hid hdd2
            have HTX2 := Lib.hid htx2
            have LOK := Lib.hid (lm_ok hwo (by omega) (by rw [hlf2]; decide))
            have HSM := Lib.hid (heads_small UP.out.wait hwo (by omega))
            have HMAY := Lib.hid hmay
            have HUL := Lib.hid hul
            have HAL := Lib.hid hal
            clear hwc hmay hul hal hwt hlit hwo hdd2 hlf2 htx2 hd1
            have s0 := M1.out.st0
            have hop := open_any M1.out.dk (M1.out.tbl HT.out rfl) HSM.out
            rw [ho2] at hop
            clear ho2
            go_wp2_with fail
            clear s0
            refine hop.mono ?_
            clear hop
            rintro e w2 ⟨g2, v2, rfl, hb2, hr2, hg2, hk⟩
            have M2 := Lib.hid (M1.out.opened hk hb2 hr2 hg2)
            have A2' := Lib.hid (A1.out.kp hk (fun e => e))
            have RA := Lib.hid (RdR.of_own (M1.out.still hk).row)
            have RU := Lib.hid (RdR.of_own hr2)
            obtain ⟨Au, cu, rfl⟩ := own_shape3 hr2
            clear hb2 hr2 hg2 hk
            have a0 := A2'.out.cell 0
            simp at a0
            go_wp2_with fail
            clear a0
            refine (may_true Au A2 cu c2 u all' p dd RU.out RA.out (by have := HUL.out; omega) (by have := HAL.out; omega) HMAY.out).mono ?_
            rintro e w3 ⟨rfl, hk⟩
            have M3 := Lib.hid (M2.out.still hk)
            have A3 := Lib.hid (A2'.out.kp hk (fun e => e))
            clear hk
            have a1 := A3.out.cell 1
            simp at a1
            obtain ⟨rm, hrm⟩ : ∃ rm, nn.tmod 3 = rm := ⟨_, rfl⟩
            by_cases hfz : k < 2 ∧ rm = (k : Int)
            · obtain ⟨hf1, hf2⟩ := hfz
              have hf1' : (k : Int) < 2 := by omega
              subst hf2
              go_upto_region 45 with fail
              clear a1 hrm
              refine wp_region_held_drew (S := fun v => v.cell? ⟨gs, 0, none⟩ = some (.pointer (some ⟨b, 0, none⟩)) ∧ v.cell? ⟨ga, 1, none⟩ = some (.int .i64 nn) ∧ v.cell? ⟨ga, 3, none⟩ = some (.string ⟨kp.toArray⟩)) (by kernel_rfl) (⟨M3.out.st0, A3.out.cell 1, A3.out.cell 3⟩) (fun hHeld => ?_)
              refine wpAnyH_take (i := 0) (oi := { dst := some 178, op := Op.move (Operand.tmp 6), type := 25, pos := "law.go:229", after := #[], guard := none }) (v := ?_) rfl (by kernel_rfl) (by kernel_rfl) (by kernel_rfl) (fun _ _ _ h => h) (Or.inl ⟨by rfl, ?_⟩) (by assumption) ?_
              rotate_left
              · intro v hSw
                try dsimp only at hSw
                go_simp
                with_reducible rfl
              try simp only [Act.put, List.setIfInBounds_toArray, List.set_cons_zero, List.set_cons_succ]
              refine wpAnyH_take (i := 1) (oi := { dst := some 179, op := Op.nilCheck (Operand.tmp 178), type := 0, pos := "law.go:229", after := #[{ on := 0, ground := Ground.data }], guard := none }) (v := ?_) rfl (by kernel_rfl) (by kernel_rfl) (by kernel_rfl) (fun _ _ _ h => h) (Or.inl ⟨by rfl, ?_⟩) (by assumption) ?_
              rotate_left
              · intro v hSw
                try dsimp only at hSw
                go_simp
                with_reducible rfl
              try simp only [Act.put, List.setIfInBounds_toArray, List.set_cons_zero, List.set_cons_succ]
              refine wpAnyH_take (i := 2) (oi := { dst := some 180, op := Op.fieldAddr 44 (Operand.tmp 179) 0, type := 0, pos := "law.go:229", after := #[{ on := 1, ground := Ground.data }], guard := none }) (v := ?_) rfl (by kernel_rfl) (by kernel_rfl) (by kernel_rfl) (fun _ _ _ h => h) (Or.inl ⟨by rfl, ?_⟩) (by assumption) ?_
              rotate_left
              · intro v hSw
                try dsimp only at hSw
                go_simp
                with_reducible rfl
              try simp only [Act.put, List.setIfInBounds_toArray, List.set_cons_zero, List.set_cons_succ]
              refine wpAnyH_take (i := 3) (oi := { dst := some 181, op := Op.load 32 (Operand.tmp 180), type := 32, pos := "law.go:229", after := #[{ on := 2, ground := Ground.data }], guard := none }) (v := ?_) rfl (by kernel_rfl) (by kernel_rfl) (by kernel_rfl) (fun _ _ _ h => h) (Or.inl ⟨by rfl, ?_⟩) (by assumption) ?_
              rotate_left
              · intro v hSw
                try dsimp only at hSw
                go_simp
                with_reducible rfl
              try simp only [Act.put, List.setIfInBounds_toArray, List.set_cons_zero, List.set_cons_succ]
              refine wpAnyH_take (i := 4) (oi := { dst := some 182, op := Op.move (Operand.tmp 18), type := 3, pos := "law.go:229", after := #[], guard := none }) (v := ?_) rfl (by kernel_rfl) (by kernel_rfl) (by kernel_rfl) (fun _ _ _ h => h) (Or.inl ⟨by rfl, ?_⟩) (by assumption) ?_
              rotate_left
              · intro v hSw
                try dsimp only at hSw
                go_simp
                with_reducible rfl
              try simp only [Act.put, List.setIfInBounds_toArray, List.set_cons_zero, List.set_cons_succ]
              refine wpAnyH_take (i := 5) (oi := { dst := some 183, op := Op.fieldAddr 30 (Operand.tmp 13) 3, type := 0, pos := "law.go:229", after := #[], guard := none }) (v := ?_) rfl (by kernel_rfl) (by kernel_rfl) (by kernel_rfl) (fun _ _ _ h => h) (Or.inl ⟨by rfl, ?_⟩) (by assumption) ?_
              rotate_left
              · intro v hSw
                try dsimp only at hSw
                go_simp
                with_reducible rfl
              try simp only [Act.put, List.setIfInBounds_toArray, List.set_cons_zero, List.set_cons_succ]
              refine wpAnyH_take (i := 6) (oi := { dst := some 184, op := Op.load 9 (Operand.tmp 183), type := 9, pos := "law.go:229", after := #[{ on := 5, ground := Ground.data }], guard := none }) (v := ?_) rfl (by kernel_rfl) (by kernel_rfl) (by kernel_rfl) (fun _ _ _ h => h) (Or.inl ⟨by rfl, ?_⟩) (by assumption) ?_
              rotate_left
              · intro v hSw
                try dsimp only at hSw
                go_simp
                with_reducible rfl
              try simp only [Act.put, List.setIfInBounds_toArray, List.set_cons_zero, List.set_cons_succ]
              refine wpAnyH_ready (rs := [7]) (by kernel_rfl) (by simp) ?_
              refine AllReadyH.cons (o := { dst := some 185, op := Op.call { callee := Callee.value (Operand.func 15), args := #[Operand.tmp 181, Operand.tmp 182, Operand.tmp 184], argTypes := #[32, 3, 9] }, type := 47, pos := "law.go:229", after := #[{ on := 3, ground := Ground.data }, { on := 4, ground := Ground.data }, { on := 6, ground := Ground.data }], guard := none }) rfl (fun K hK => ?_) AllReadyH.nil
              go_simp
              have hcl := fuse_any ((M3.out.still (Kp.refl (fun _ => False) _).drew).dk.bothG) (k : Int) (by omega) kp HKP.out
              refine hcl.mono ?_
              clear hcl
              rintro e w4 ⟨rfl, hd, hk⟩
              have M4 := Lib.hid ((M3.out.still (Kp.refl (fun _ => False) _).drew).disk hd hk)
              have A4 := Lib.hid ((M3.out.still (Kp.refl (fun _ => False) _).drew).other A3.out.drew ⟨by decide, by decide, by decide⟩ (by decide) (hk.orG g2))
              clear hd hk
              go_wp2_with fail
              refine hK.out _ _ (⟨M4.out.st0, A4.out.cell 1, A4.out.cell 3⟩) (fun hHeld1 => ?_)
              clear hK K
              try simp only [Act.put, List.setIfInBounds_toArray, List.set_cons_zero, List.set_cons_succ]
              refine wpAnyH_done (by kernel_rfl) ?_ _
              have hfs : (d1.fuseS (k : Int) kp).1 = { d1 with lit := true, left := k, keep := kp } := by simp [Dm.fuseS]
              obtain ⟨d2, hd2⟩ : ∃ d2, (d1.fuseS (k : Int) kp).1 = d2 := ⟨_, rfl⟩
              rw [hd2] at M4
              have UP2 := Lib.hid (show Up d2 by rw [← hd2, hfs]; exact ⟨UP.out.power, UP.out.wait⟩)
              have ON2 := Lib.hid (show d2.on = d1.on by rw [← hd2, hfs])
              have hsh := trim_short (d := d2) (l := l2) (N := 2 + 600 * i + 512 + 2 * k) (by rw [ON2.out]; exact HWO.out) HDD2.out UP2.out (by rw [← hd2, hfs]) (by rw [← hd2, hfs]; show k ≤ 1; omega)
              have hto := trim_out (d := d2) (l := l2) (N := 2 + 600 * i + 512 + 2 * k) (by rw [ON2.out]; exact HWO.out) (by omega) HDD2.out UP2.out
              rcases hto with ⟨hz, _⟩ | ⟨_, hwc3, hoff⟩
              · rw [hsh] at hz; cases hz
              have HW3 := Lib.hid hwc3
              have HOFF := Lib.hid hoff
              obtain ⟨r, hr⟩ : ∃ r, l2.trimS d2 = r := ⟨_, rfl⟩
              obtain ⟨l3, d3, e3⟩ := r
              rw [hr] at hsh
              dsimp only at hsh
              subst hsh
              have HR := Lib.hid hr
              clear hfs hd2 hwc3 hoff hr
              have a0 := A4.out.cell 0
              have f0 := A4.out.free 0
              simp at a0
              have A5 := Lib.hid (A4.out.put 0 (.int .u8 1))
              have kset := Kp.one w4 ga 0 (.int .u8 1)
              have M5 := Lib.hid (M4.out.act A4.out hga kset)
              clear kset
              go_wp2_with fail
              clear a0 f0
              have htr := trim_any (F := fun k => w.heap.size ≤ k ∧ DT (w4.setCell ⟨ga, 0, none⟩ (.int .u8 1)) k) M5.out.new M5.out.dk.bothG (M5.out.tbl HT.out rfl) M5.out.lg LOK.out (by rw [UP2.out.wait]; decide)
              rw [HR.out] at htr
              generalize w4.setCell ⟨ga, 0, none⟩ (.int .u8 1) = w5 at A5 M5 htr ⊢
              refine htr.mono ?_
              clear htr
              rintro e w6 ⟨rfl, hd, hb, hk⟩
              have M6 := Lib.hid (M5.out.turn hd hb hk)
              have A6 := Lib.hid (M5.out.other A5.out ⟨by decide, by decide, by decide⟩ (by decide) hk)
              clear hd hb hk
              go_wp2_with fail
              go_roundg (3 - (k + 1))
              case measure => have := HKG.out; omega
              case rel =>
                refine ⟨k + 1, g2, u, [], 1, d3, l3, by omega, by omega, by go_num, rfl, rfl, M6.out, A6.out, ?_⟩
                have h3 := HW3.out
                have h4 := HOFF.out
                rw [HR.out] at h3 h4
                rw [ON2.out, HTX2.out] at h3
                rcases h3 with h3 | h3
                · exact ⟨u, h3.mono (by omega), .inr (.inl rfl), HUL.out, HUL.out, h4.wait, h4.lit⟩
                · exact ⟨[], h3.mono (by omega), .inl ⟨rfl, rfl⟩, Nat.zero_le _, HUL.out, h4.wait, h4.lit⟩
            · have htu := trim_unlit HWO.out HDD2.out UP.out LIT.out
              have hto := trim_out HWO.out (by omega) HDD2.out UP.out
              have hto2 : Wi (l2.trimS d1).2.1.on (l2.trimS d1).1 [] (2 + 600 * i + 512 + 2 * k + 1) ∧ Up (l2.trimS d1).2.1 := by
                rcases hto with ⟨_, a, b⟩ | ⟨hz, _⟩
                · exact ⟨a, b⟩
                · rw [htu.1] at hz; cases hz
              clear hto
              obtain ⟨hwi3, hup3⟩ := hto2
              obtain ⟨r, hr⟩ : ∃ r, l2.trimS d1 = r := ⟨_, rfl⟩
              rw [hr] at htu hwi3 hup3
              obtain ⟨l3, d3, e3⟩ := r
              obtain ⟨he3, hlit3⟩ := htu
              dsimp only at he3 hlit3 hwi3 hup3
              subst he3
              have HR := Lib.hid hr
              have HWI := Lib.hid hwi3
              have HUP := Lib.hid hup3
              have htr := trim_any (F := fun k => w.heap.size ≤ k ∧ DT w3 k) M3.out.new M3.out.dk.bothG (M3.out.tbl HT.out rfl) M3.out.lg LOK.out (by rw [UP.out.wait]; decide)
              rw [HR.out] at htr
              clear hr hwi3 hup3 hlit3
              by_cases hf1 : k < 2
              · have hf1' : (k : Int) < 2 := by omega
                have hf2 : (rm == (k : Int)) = false := by simp; omega
                clear hfz
                go_wp2_with fail
                clear a1 hrm
                refine htr.mono ?_
                clear htr
                rintro e w4 ⟨rfl, hd, hb, hk⟩
                have M4 := Lib.hid (M3.out.turn hd hb hk).rowNil
                clear hd hb hk
                go_wp2_with fail
                go_roundg (acts.length - (i + 1))
                case measure => have := HIG.out; omega
                case rel => exact ⟨i + 1, g2, [], d3, l3, [], by have := HIG.out; omega, by go_num, rfl, M4.out, HWI.out.mono (by omega), rfl, HUP.out, Nat.zero_le _⟩
              · have hf1' : ¬ (k : Int) < 2 := by omega
                clear hfz hf1
                go_wp2_with fail
                clear a1 hrm
                refine htr.mono ?_
                clear htr
                rintro e w4 ⟨rfl, hd, hb, hk⟩
                have M4 := Lib.hid (M3.out.turn hd hb hk).rowNil
                clear hd hb hk
                go_wp2_with fail
                go_roundg (acts.length - (i + 1))
                case measure => have := HIG.out; omega
                case rel => exact ⟨i + 1, g2, [], d3, l3, [], by have := HIG.out; omega, by go_num, rfl, M4.out, HWI.out.mono (by omega), rfl, HUP.out, Nat.zero_le _⟩
      by_cases h3 : dd = 3
      · subst h3
        clear h0 h1 a1 a2 a3
        go_upto_region 29 with fail
        clear a0
        refine wp_region_held_drew (S := fun v => v.cell? ⟨gs, 0, none⟩ = some (.pointer (some ⟨b, 0, none⟩)) ∧ v.cell? ⟨ga, 1, none⟩ = some (.int .i64 nn) ∧ v.cell? ⟨ga, 3, none⟩ = some (.string ⟨kp.toArray⟩)) (by kernel_rfl) (⟨M0.out.st0, GA.out.cell 1, GA.out.cell 3⟩) (fun hHeld => ?_)
        refine wpAnyH_take (i := 0) (oi := { dst := some 114, op := Op.move (Operand.tmp 6), type := 25, pos := "law.go:211", after := #[], guard := none }) (v := ?_) rfl (by kernel_rfl) (by kernel_rfl) (by kernel_rfl) (fun _ _ _ h => h) (Or.inl ⟨by rfl, ?_⟩) (by assumption) ?_
        rotate_left
        · intro v hSw
          try dsimp only at hSw
          go_simp
          with_reducible rfl
        try simp only [Act.put, List.setIfInBounds_toArray, List.set_cons_zero, List.set_cons_succ]
        refine wpAnyH_take (i := 1) (oi := { dst := some 115, op := Op.nilCheck (Operand.tmp 114), type := 0, pos := "law.go:211", after := #[{ on := 0, ground := Ground.data }], guard := none }) (v := ?_) rfl (by kernel_rfl) (by kernel_rfl) (by kernel_rfl) (fun _ _ _ h => h) (Or.inl ⟨by rfl, ?_⟩) (by assumption) ?_
        rotate_left
        · intro v hSw
          try dsimp only at hSw
          go_simp
          with_reducible rfl
        try simp only [Act.put, List.setIfInBounds_toArray, List.set_cons_zero, List.set_cons_succ]
        refine wpAnyH_take (i := 2) (oi := { dst := some 116, op := Op.fieldAddr 44 (Operand.tmp 115) 0, type := 0, pos := "law.go:211", after := #[{ on := 1, ground := Ground.data }], guard := none }) (v := ?_) rfl (by kernel_rfl) (by kernel_rfl) (by kernel_rfl) (fun _ _ _ h => h) (Or.inl ⟨by rfl, ?_⟩) (by assumption) ?_
        rotate_left
        · intro v hSw
          try dsimp only at hSw
          go_simp
          with_reducible rfl
        try simp only [Act.put, List.setIfInBounds_toArray, List.set_cons_zero, List.set_cons_succ]
        refine wpAnyH_take (i := 3) (oi := { dst := some 117, op := Op.load 32 (Operand.tmp 116), type := 32, pos := "law.go:211", after := #[{ on := 2, ground := Ground.data }], guard := none }) (v := ?_) rfl (by kernel_rfl) (by kernel_rfl) (by kernel_rfl) (fun _ _ _ h => h) (Or.inl ⟨by rfl, ?_⟩) (by assumption) ?_
        rotate_left
        · intro v hSw
          try dsimp only at hSw
          go_simp
          with_reducible rfl
        try simp only [Act.put, List.setIfInBounds_toArray, List.set_cons_zero, List.set_cons_succ]
        refine wpAnyH_take (i := 4) (oi := { dst := some 118, op := Op.fieldAddr 30 (Operand.tmp 13) 1, type := 0, pos := "law.go:211", after := #[], guard := none }) (v := ?_) rfl (by kernel_rfl) (by kernel_rfl) (by kernel_rfl) (fun _ _ _ h => h) (Or.inl ⟨by rfl, ?_⟩) (by assumption) ?_
        rotate_left
        · intro v hSw
          try dsimp only at hSw
          go_simp
          with_reducible rfl
        try simp only [Act.put, List.setIfInBounds_toArray, List.set_cons_zero, List.set_cons_succ]
        refine wpAnyH_take (i := 5) (oi := { dst := some 119, op := Op.load 3 (Operand.tmp 118), type := 3, pos := "law.go:211", after := #[{ on := 4, ground := Ground.data }], guard := none }) (v := ?_) rfl (by kernel_rfl) (by kernel_rfl) (by kernel_rfl) (fun _ _ _ h => h) (Or.inl ⟨by rfl, ?_⟩) (by assumption) ?_
        rotate_left
        · intro v hSw
          try dsimp only at hSw
          go_simp
          with_reducible rfl
        try simp only [Act.put, List.setIfInBounds_toArray, List.set_cons_zero, List.set_cons_succ]
        refine wpAnyH_take (i := 6) (oi := { dst := some 120, op := Op.fieldAddr 30 (Operand.tmp 13) 3, type := 0, pos := "law.go:211", after := #[], guard := none }) (v := ?_) rfl (by kernel_rfl) (by kernel_rfl) (by kernel_rfl) (fun _ _ _ h => h) (Or.inl ⟨by rfl, ?_⟩) (by assumption) ?_
        rotate_left
        · intro v hSw
          try dsimp only at hSw
          go_simp
          with_reducible rfl
        try simp only [Act.put, List.setIfInBounds_toArray, List.set_cons_zero, List.set_cons_succ]
        refine wpAnyH_take (i := 7) (oi := { dst := some 121, op := Op.load 9 (Operand.tmp 120), type := 9, pos := "law.go:211", after := #[{ on := 6, ground := Ground.data }], guard := none }) (v := ?_) rfl (by kernel_rfl) (by kernel_rfl) (by kernel_rfl) (fun _ _ _ h => h) (Or.inl ⟨by rfl, ?_⟩) (by assumption) ?_
        rotate_left
        · intro v hSw
          try dsimp only at hSw
          go_simp
          with_reducible rfl
        try simp only [Act.put, List.setIfInBounds_toArray, List.set_cons_zero, List.set_cons_succ]
        refine wpAnyH_ready (rs := [8]) (by kernel_rfl) (by simp) ?_
        refine AllReadyH.cons (o := { dst := some 122, op := Op.call { callee := Callee.value (Operand.func 15), args := #[Operand.tmp 117, Operand.tmp 119, Operand.tmp 121], argTypes := #[32, 3, 9] }, type := 47, pos := "law.go:211", after := #[{ on := 3, ground := Ground.data }, { on := 5, ground := Ground.data }, { on := 7, ground := Ground.data }], guard := none }) rfl (fun K hK => ?_) AllReadyH.nil
        go_simp
        have hcl := fuse_any ((M0.out.still (Kp.refl (fun _ => False) _).drew).dk.bothG) nn (by have := HN1.out; omega) kp HKP.out
        refine hcl.mono ?_
        clear hcl
        rintro e w1 ⟨rfl, hd, hk⟩
        have M1 := Lib.hid ((M0.out.still (Kp.refl (fun _ => False) _).drew).disk hd hk)
        have A1 := Lib.hid ((M0.out.still (Kp.refl (fun _ => False) _).drew).other GA.out.drew ⟨by decide, by decide, by decide⟩ (by decide) (hk.orG g))
        clear hd hk
        go_wp2_with fail
        refine hK.out _ _ (⟨M1.out.st0, A1.out.cell 1, A1.out.cell 3⟩) (fun hHeld2 => ?_)
        clear hK K
        try simp only [Act.put, List.setIfInBounds_toArray, List.set_cons_zero, List.set_cons_succ]
        refine wpAnyH_done (by kernel_rfl) ?_ _
        go_wp2_with fail
        have HON := Lib.hid (fuse_on d nn kp)
        go_roundg (acts.length - (i + 1))
        case measure => have := HIG.out; omega
        case rel => exact ⟨i + 1, g, all, (d.fuseS nn kp).1, l, ss, by have := HIG.out; omega, by go_num, rfl, M1.out, by rw [HON.out.1]; exact HWI.out.mono (by omega), HPAR.out, ⟨by rw [HON.out.2.2]; exact HUP.out.power, by rw [HON.out.2.1]; exact HUP.out.wait⟩, by have := HALL.out; omega⟩
      by_cases h4 : dd = 4
      · subst h4
        clear h0 h1 h3 a1 a2 a3
        go_upto_region 31 with fail
        clear a0
        refine wp_region_held_drew (S := fun v => v.cell? ⟨gs, 0, none⟩ = some (.pointer (some ⟨b, 0, none⟩)) ∧ v.cell? ⟨ga, 1, none⟩ = some (.int .i64 nn) ∧ v.cell? ⟨ga, 3, none⟩ = some (.string ⟨kp.toArray⟩)) (by kernel_rfl) (⟨M0.out.st0, GA.out.cell 1, GA.out.cell 3⟩) (fun hHeld => ?_)
        refine wpAnyH_take (i := 0) (oi := { dst := some 125, op := Op.move (Operand.tmp 6), type := 25, pos := "law.go:213", after := #[], guard := none }) (v := ?_) rfl (by kernel_rfl) (by kernel_rfl) (by kernel_rfl) (fun _ _ _ h => h) (Or.inl ⟨by rfl, ?_⟩) (by assumption) ?_
        rotate_left
        · intro v hSw
          try dsimp only at hSw
          go_simp
          with_reducible rfl
        try simp only [Act.put, List.setIfInBounds_toArray, List.set_cons_zero, List.set_cons_succ]
        refine wpAnyH_take (i := 1) (oi := { dst := some 126, op := Op.nilCheck (Operand.tmp 125), type := 0, pos := "law.go:213", after := #[{ on := 0, ground := Ground.data }], guard := none }) (v := ?_) rfl (by kernel_rfl) (by kernel_rfl) (by kernel_rfl) (fun _ _ _ h => h) (Or.inl ⟨by rfl, ?_⟩) (by assumption) ?_
        rotate_left
        · intro v hSw
          try dsimp only at hSw
          go_simp
          with_reducible rfl
        try simp only [Act.put, List.setIfInBounds_toArray, List.set_cons_zero, List.set_cons_succ]
        refine wpAnyH_take (i := 2) (oi := { dst := some 127, op := Op.fieldAddr 44 (Operand.tmp 126) 0, type := 0, pos := "law.go:213", after := #[{ on := 1, ground := Ground.data }], guard := none }) (v := ?_) rfl (by kernel_rfl) (by kernel_rfl) (by kernel_rfl) (fun _ _ _ h => h) (Or.inl ⟨by rfl, ?_⟩) (by assumption) ?_
        rotate_left
        · intro v hSw
          try dsimp only at hSw
          go_simp
          with_reducible rfl
        try simp only [Act.put, List.setIfInBounds_toArray, List.set_cons_zero, List.set_cons_succ]
        refine wpAnyH_take (i := 3) (oi := { dst := some 128, op := Op.load 32 (Operand.tmp 127), type := 32, pos := "law.go:213", after := #[{ on := 2, ground := Ground.data }], guard := none }) (v := ?_) rfl (by kernel_rfl) (by kernel_rfl) (by kernel_rfl) (fun _ _ _ h => h) (Or.inl ⟨by rfl, ?_⟩) (by assumption) ?_
        rotate_left
        · intro v hSw
          try dsimp only at hSw
          go_simp
          with_reducible rfl
        try simp only [Act.put, List.setIfInBounds_toArray, List.set_cons_zero, List.set_cons_succ]
        refine wpAnyH_take (i := 4) (oi := { dst := some 129, op := Op.fieldAddr 30 (Operand.tmp 13) 3, type := 0, pos := "law.go:213", after := #[], guard := none }) (v := ?_) rfl (by kernel_rfl) (by kernel_rfl) (by kernel_rfl) (fun _ _ _ h => h) (Or.inl ⟨by rfl, ?_⟩) (by assumption) ?_
        rotate_left
        · intro v hSw
          try dsimp only at hSw
          go_simp
          with_reducible rfl
        try simp only [Act.put, List.setIfInBounds_toArray, List.set_cons_zero, List.set_cons_succ]
        refine wpAnyH_take (i := 5) (oi := { dst := some 130, op := Op.load 9 (Operand.tmp 129), type := 9, pos := "law.go:213", after := #[{ on := 4, ground := Ground.data }], guard := none }) (v := ?_) rfl (by kernel_rfl) (by kernel_rfl) (by kernel_rfl) (fun _ _ _ h => h) (Or.inl ⟨by rfl, ?_⟩) (by assumption) ?_
        rotate_left
        · intro v hSw
          try dsimp only at hSw
          go_simp
          with_reducible rfl
        try simp only [Act.put, List.setIfInBounds_toArray, List.set_cons_zero, List.set_cons_succ]
        refine wpAnyH_ready (rs := [6]) (by kernel_rfl) (by simp) ?_
        refine AllReadyH.cons (o := { dst := some 131, op := Op.call { callee := Callee.value (Operand.func 16), args := #[Operand.tmp 128, Operand.tmp 130], argTypes := #[32, 9] }, type := 47, pos := "law.go:213", after := #[{ on := 3, ground := Ground.data }, { on := 5, ground := Ground.data }], guard := none }) rfl (fun K hK => ?_) AllReadyH.nil
        go_simp
        have hcl := crash_any ((M0.out.still (Kp.refl (fun _ => False) _).drew).dk.bothG) kp HKP.out
        refine hcl.mono ?_
        clear hcl
        rintro e w1 ⟨rfl, hd, hk⟩
        have M1 := Lib.hid ((M0.out.still (Kp.refl (fun _ => False) _).drew).disk hd hk)
        have A1 := Lib.hid ((M0.out.still (Kp.refl (fun _ => False) _).drew).other GA.out.drew ⟨by decide, by decide, by decide⟩ (by decide) (hk.orG g))
        clear hd hk
        go_wp2_with fail
        refine hK.out _ _ (⟨M1.out.st0, A1.out.cell 1, A1.out.cell 3⟩) (fun hHeld3 => ?_)
        clear hK K
        try simp only [Act.put, List.setIfInBounds_toArray, List.set_cons_zero, List.set_cons_succ]
        refine wpAnyH_done (by kernel_rfl) ?_ _
        have HON := Lib.hid (crash_on d HUP.out kp)
        go_wp2_with fail
        go_loopg [8, 11, 14, 18] 3 (fun gi s8 s11 s14 s18 wx => ∃ (k g' : Nat) (all' : List (List UInt8)) (p : List UInt8) (dd : Int) (d' : Dm) (l' : Lm), k + gi = 3 ∧ k ≤ 2 ∧ s18 = .int .i64 k ∧ s14 = .string ⟨p.toArray⟩ ∧ s8 = .pointer (some ⟨g', 0, none⟩) ∧ Km w.heap.size w gs g' b s11 all' d' l' wx ∧ Box wx ga 30 #[.int .u8 dd, .int .i64 nn, .int .u8 cc.toNat, .string ⟨kp.toArray⟩] ∧ CutS d' all' p dd (2 + 600 * i + 512 + 2 * k) (i + 1))
        case atStart => 
          have CT := Lib.hid (show CutS (d.crashS kp).1 all [] 4 (2 + 600 * i + 512 + 2 * 0) (i + 1) from by
            have hl := HALL.out
            refine ⟨all, ?_, .inr (.inl rfl), by omega, by omega, HON.out.2.1, HON.out.2.2⟩
            rw [HON.out.1, ← HPAR.out]
            exact HWI.out.cut.mono (by omega))
          exact ⟨0, g, all, [], 4, (d.crashS kp).1, l, by omega, by omega, rfl, rfl, rfl, M1.out, A1.out, CT.out⟩
        case round =>
          obtain ⟨k, g', all', p, dd, d', l', hkg, hk2, rfl, rfl, rfl, hm, hga, hcut⟩ := hrel
          rename World => wx
          have MK := Lib.hid hm
          have GA := Lib.hid hga
          have CU := Lib.hid hcut
          have HKG := Lib.hid hkg
          obtain ⟨A2, c2, rfl⟩ := own_shape3 hm.row
          clear hm hga hcut hkg
          have hk3 : (k : Int) < 3 := by omega
          have s0 := MK.out.st0
          go_wp2_with fail
          clear s0
          refine (start_any MK.out.dk.bothG).mono ?_
          rintro e w1 ⟨rfl, hd, hk⟩
          have M1 := Lib.hid (MK.out.disk hd hk)
          have A1 := Lib.hid (MK.out.other GA.out ⟨by decide, by decide, by decide⟩ (by decide) (hk.orG g'))
          clear hd hk
          obtain ⟨d1, hd1⟩ : ∃ d1, d'.startS = d1 := ⟨_, rfl⟩
          rw [hd1] at M1
          obtain ⟨u, hwc, hmay, hul, hal, hwt, hlit⟩ := CU.out
          have UP := Lib.hid (show Up d1 by rw [← hd1]; exact ⟨rfl, hwt⟩)
          have LIT := Lib.hid (show d1.lit = false by rw [← hd1]; exact hlit)
          obtain ⟨l2, ho2, hwo, hdd2, hlf2, htx2⟩ := open_out (d := d1) (by rw [← hd1]; exact hwc) (by omega) UP.out
          have HWO := Lib.hid hwo
          have HDD2 := Lib.hid hdd2
          have HTX2 := Lib.hid htx2
          have LOK := Lib.hid (lm_ok hwo (by omega) (by rw [hlf2]; decide))
          have HSM := Lib.hid (heads_small UP.out.wait hwo (by omega))
          have HMAY := Lib.hid hmay
          have HUL := Lib.hid hul
          have HAL := Lib.hid hal
          clear hwc hmay hul hal hwt hlit hwo hdd2 hlf2 htx2 hd1
          have s0 := M1.out.st0
          have hop := open_any M1.out.dk (M1.out.tbl HT.out rfl) HSM.out
          rw [ho2] at hop
          clear ho2
          go_wp2_with fail
          clear s0
          refine hop.mono ?_
          clear hop
          rintro e w2 ⟨g2, v2, rfl, hb2, hr2, hg2, hk⟩
          have M2 := Lib.hid (M1.out.opened hk hb2 hr2 hg2)
          have A2' := Lib.hid (A1.out.kp hk (fun e => e))
          have RA := Lib.hid (RdR.of_own (M1.out.still hk).row)
          have RU := Lib.hid (RdR.of_own hr2)
          obtain ⟨Au, cu, rfl⟩ := own_shape3 hr2
          clear hb2 hr2 hg2 hk
          have a0 := A2'.out.cell 0
          simp at a0
          go_wp2_with fail
          clear a0
          refine (may_true Au A2 cu c2 u all' p dd RU.out RA.out (by have := HUL.out; omega) (by have := HAL.out; omega) HMAY.out).mono ?_
          rintro e w3 ⟨rfl, hk⟩
          have M3 := Lib.hid (M2.out.still hk)
          have A3 := Lib.hid (A2'.out.kp hk (fun e => e))
          clear hk
          have a1 := A3.out.cell 1
          simp at a1
          obtain ⟨rm, hrm⟩ : ∃ rm, nn.tmod 3 = rm := ⟨_, rfl⟩
          by_cases hfz : k < 2 ∧ rm = (k : Int)
          · obtain ⟨hf1, hf2⟩ := hfz
            have hf1' : (k : Int) < 2 := by omega
            subst hf2
            go_upto_region 45 with fail
            clear a1 hrm
            refine wp_region_held_drew (S := fun v => v.cell? ⟨gs, 0, none⟩ = some (.pointer (some ⟨b, 0, none⟩)) ∧ v.cell? ⟨ga, 1, none⟩ = some (.int .i64 nn) ∧ v.cell? ⟨ga, 3, none⟩ = some (.string ⟨kp.toArray⟩)) (by kernel_rfl) (⟨M3.out.st0, A3.out.cell 1, A3.out.cell 3⟩) (fun hHeld => ?_)
            refine wpAnyH_take (i := 0) (oi := { dst := some 178, op := Op.move (Operand.tmp 6), type := 25, pos := "law.go:229", after := #[], guard := none }) (v := ?_) rfl (by kernel_rfl) (by kernel_rfl) (by kernel_rfl) (fun _ _ _ h => h) (Or.inl ⟨by rfl, ?_⟩) (by assumption) ?_
            rotate_left
            · intro v hSw
              try dsimp only at hSw
              go_simp
              with_reducible rfl
            try simp only [Act.put, List.setIfInBounds_toArray, List.set_cons_zero, List.set_cons_succ]
            refine wpAnyH_take (i := 1) (oi := { dst := some 179, op := Op.nilCheck (Operand.tmp 178), type := 0, pos := "law.go:229", after := #[{ on := 0, ground := Ground.data }], guard := none }) (v := ?_) rfl (by kernel_rfl) (by kernel_rfl) (by kernel_rfl) (fun _ _ _ h => h) (Or.inl ⟨by rfl, ?_⟩) (by assumption) ?_
            rotate_left
            · intro v hSw
              try dsimp only at hSw
              go_simp
              with_reducible rfl
            try simp only [Act.put, List.setIfInBounds_toArray, List.set_cons_zero, List.set_cons_succ]
            refine wpAnyH_take (i := 2) (oi := { dst := some 180, op := Op.fieldAddr 44 (Operand.tmp 179) 0, type := 0, pos := "law.go:229", after := #[{ on := 1, ground := Ground.data }], guard := none }) (v := ?_) rfl (by kernel_rfl) (by kernel_rfl) (by kernel_rfl) (fun _ _ _ h => h) (Or.inl ⟨by rfl, ?_⟩) (by assumption) ?_
            rotate_left
            · intro v hSw
              try dsimp only at hSw
              go_simp
              with_reducible rfl
            try simp only [Act.put, List.setIfInBounds_toArray, List.set_cons_zero, List.set_cons_succ]
            refine wpAnyH_take (i := 3) (oi := { dst := some 181, op := Op.load 32 (Operand.tmp 180), type := 32, pos := "law.go:229", after := #[{ on := 2, ground := Ground.data }], guard := none }) (v := ?_) rfl (by kernel_rfl) (by kernel_rfl) (by kernel_rfl) (fun _ _ _ h => h) (Or.inl ⟨by rfl, ?_⟩) (by assumption) ?_
            rotate_left
            · intro v hSw
              try dsimp only at hSw
              go_simp
              with_reducible rfl
            try simp only [Act.put, List.setIfInBounds_toArray, List.set_cons_zero, List.set_cons_succ]
            refine wpAnyH_take (i := 4) (oi := { dst := some 182, op := Op.move (Operand.tmp 18), type := 3, pos := "law.go:229", after := #[], guard := none }) (v := ?_) rfl (by kernel_rfl) (by kernel_rfl) (by kernel_rfl) (fun _ _ _ h => h) (Or.inl ⟨by rfl, ?_⟩) (by assumption) ?_
            rotate_left
            · intro v hSw
              try dsimp only at hSw
              go_simp
              with_reducible rfl
            try simp only [Act.put, List.setIfInBounds_toArray, List.set_cons_zero, List.set_cons_succ]
            refine wpAnyH_take (i := 5) (oi := { dst := some 183, op := Op.fieldAddr 30 (Operand.tmp 13) 3, type := 0, pos := "law.go:229", after := #[], guard := none }) (v := ?_) rfl (by kernel_rfl) (by kernel_rfl) (by kernel_rfl) (fun _ _ _ h => h) (Or.inl ⟨by rfl, ?_⟩) (by assumption) ?_
            rotate_left
            · intro v hSw
              try dsimp only at hSw
              go_simp
              with_reducible rfl
            try simp only [Act.put, List.setIfInBounds_toArray, List.set_cons_zero, List.set_cons_succ]
            refine wpAnyH_take (i := 6) (oi := { dst := some 184, op := Op.load 9 (Operand.tmp 183), type := 9, pos := "law.go:229", after := #[{ on := 5, ground := Ground.data }], guard := none }) (v := ?_) rfl (by kernel_rfl) (by kernel_rfl) (by kernel_rfl) (fun _ _ _ h => h) (Or.inl ⟨by rfl, ?_⟩) (by assumption) ?_
            rotate_left
            · intro v hSw
              try dsimp only at hSw
              go_simp
              with_reducible rfl
            try simp only [Act.put, List.setIfInBounds_toArray, List.set_cons_zero, List.set_cons_succ]
            refine wpAnyH_ready (rs := [7]) (by kernel_rfl) (by simp) ?_
            refine AllReadyH.cons (o := { dst := some 185, op := Op.call { callee := Callee.value (Operand.func 15), args := #[Operand.tmp 181, Operand.tmp 182, Operand.tmp 184], argTypes := #[32, 3, 9] }, type := 47, pos := "law.go:229", after := #[{ on := 3, ground := Ground.data }, { on := 4, ground := Ground.data }, { on := 6, ground := Ground.data }], guard := none }) rfl (fun K hK => ?_) AllReadyH.nil
            go_simp
            have hcl := fuse_any ((M3.out.still (Kp.refl (fun _ => False) _).drew).dk.bothG) (k : Int) (by omega) kp HKP.out
            refine hcl.mono ?_
            clear hcl
            rintro e w4 ⟨rfl, hd, hk⟩
            have M4 := Lib.hid ((M3.out.still (Kp.refl (fun _ => False) _).drew).disk hd hk)
            have A4 := Lib.hid ((M3.out.still (Kp.refl (fun _ => False) _).drew).other A3.out.drew ⟨by decide, by decide, by decide⟩ (by decide) (hk.orG g2))
            clear hd hk
            go_wp2_with fail
            refine hK.out _ _ (⟨M4.out.st0, A4.out.cell 1, A4.out.cell 3⟩) (fun hHeld1 => ?_)
            clear hK K
            try simp only [Act.put, List.setIfInBounds_toArray, List.set_cons_zero, List.set_cons_succ]
            refine wpAnyH_done (by kernel_rfl) ?_ _
            have hfs : (d1.fuseS (k : Int) kp).1 = { d1 with lit := true, left := k, keep := kp } := by simp [Dm.fuseS]
            obtain ⟨d2, hd2⟩ : ∃ d2, (d1.fuseS (k : Int) kp).1 = d2 := ⟨_, rfl⟩
            rw [hd2] at M4
            have UP2 := Lib.hid (show Up d2 by rw [← hd2, hfs]; exact ⟨UP.out.power, UP.out.wait⟩)
            have ON2 := Lib.hid (show d2.on = d1.on by rw [← hd2, hfs])
            have hsh := trim_short (d := d2) (l := l2) (N := 2 + 600 * i + 512 + 2 * k) (by rw [ON2.out]; exact HWO.out) HDD2.out UP2.out (by rw [← hd2, hfs]) (by rw [← hd2, hfs]; show k ≤ 1; omega)
            have hto := trim_out (d := d2) (l := l2) (N := 2 + 600 * i + 512 + 2 * k) (by rw [ON2.out]; exact HWO.out) (by omega) HDD2.out UP2.out
            rcases hto with ⟨hz, _⟩ | ⟨_, hwc3, hoff⟩
            · rw [hsh] at hz; cases hz
            have HW3 := Lib.hid hwc3
            have HOFF := Lib.hid hoff
            obtain ⟨r, hr⟩ : ∃ r, l2.trimS d2 = r := ⟨_, rfl⟩
            obtain ⟨l3, d3, e3⟩ := r
            rw [hr] at hsh
            dsimp only at hsh
            subst hsh
            have HR := Lib.hid hr
            clear hfs hd2 hwc3 hoff hr
            have a0 := A4.out.cell 0
            have f0 := A4.out.free 0
            simp at a0
            have A5 := Lib.hid (A4.out.put 0 (.int .u8 1))
            have kset := Kp.one w4 ga 0 (.int .u8 1)
            have M5 := Lib.hid (M4.out.act A4.out hga kset)
            clear kset
            go_wp2_with fail
            clear a0 f0
            have htr := trim_any (F := fun k => w.heap.size ≤ k ∧ DT (w4.setCell ⟨ga, 0, none⟩ (.int .u8 1)) k) M5.out.new M5.out.dk.bothG (M5.out.tbl HT.out rfl) M5.out.lg LOK.out (by rw [UP2.out.wait]; decide)
            rw [HR.out] at htr
            generalize w4.setCell ⟨ga, 0, none⟩ (.int .u8 1) = w5 at A5 M5 htr ⊢
            refine htr.mono ?_
            clear htr
            rintro e w6 ⟨rfl, hd, hb, hk⟩
            have M6 := Lib.hid (M5.out.turn hd hb hk)
            have A6 := Lib.hid (M5.out.other A5.out ⟨by decide, by decide, by decide⟩ (by decide) hk)
            clear hd hb hk
            go_wp2_with fail
            go_roundg (3 - (k + 1))
            case measure => have := HKG.out; omega
            case rel =>
              refine ⟨k + 1, g2, u, [], 1, d3, l3, by omega, by omega, by go_num, rfl, rfl, M6.out, A6.out, ?_⟩
              have h3 := HW3.out
              have h4 := HOFF.out
              rw [HR.out] at h3 h4
              rw [ON2.out, HTX2.out] at h3
              rcases h3 with h3 | h3
              · exact ⟨u, h3.mono (by omega), .inr (.inl rfl), HUL.out, HUL.out, h4.wait, h4.lit⟩
              · exact ⟨[], h3.mono (by omega), .inl ⟨rfl, rfl⟩, Nat.zero_le _, HUL.out, h4.wait, h4.lit⟩
          · have htu := trim_unlit HWO.out HDD2.out UP.out LIT.out
            have hto := trim_out HWO.out (by omega) HDD2.out UP.out
            have hto2 : Wi (l2.trimS d1).2.1.on (l2.trimS d1).1 [] (2 + 600 * i + 512 + 2 * k + 1) ∧ Up (l2.trimS d1).2.1 := by
              rcases hto with ⟨_, a, b⟩ | ⟨hz, _⟩
              · exact ⟨a, b⟩
              · rw [htu.1] at hz; cases hz
            clear hto
            obtain ⟨hwi3, hup3⟩ := hto2
            obtain ⟨r, hr⟩ : ∃ r, l2.trimS d1 = r := ⟨_, rfl⟩
            rw [hr] at htu hwi3 hup3
            obtain ⟨l3, d3, e3⟩ := r
            obtain ⟨he3, hlit3⟩ := htu
            dsimp only at he3 hlit3 hwi3 hup3
            subst he3
            have HR := Lib.hid hr
            have HWI := Lib.hid hwi3
            have HUP := Lib.hid hup3
            have htr := trim_any (F := fun k => w.heap.size ≤ k ∧ DT w3 k) M3.out.new M3.out.dk.bothG (M3.out.tbl HT.out rfl) M3.out.lg LOK.out (by rw [UP.out.wait]; decide)
            rw [HR.out] at htr
            clear hr hwi3 hup3 hlit3
            by_cases hf1 : k < 2
            · have hf1' : (k : Int) < 2 := by omega
              have hf2 : (rm == (k : Int)) = false := by simp; omega
              clear hfz
              go_wp2_with fail
              clear a1 hrm
              refine htr.mono ?_
              clear htr
              rintro e w4 ⟨rfl, hd, hb, hk⟩
              have M4 := Lib.hid (M3.out.turn hd hb hk).rowNil
              clear hd hb hk
              go_wp2_with fail
              go_roundg (acts.length - (i + 1))
              case measure => have := HIG.out; omega
              case rel => exact ⟨i + 1, g2, [], d3, l3, [], by have := HIG.out; omega, by go_num, rfl, M4.out, HWI.out.mono (by omega), rfl, HUP.out, Nat.zero_le _⟩
            · have hf1' : ¬ (k : Int) < 2 := by omega
              clear hfz hf1
              go_wp2_with fail
              clear a1 hrm
              refine htr.mono ?_
              clear htr
              rintro e w4 ⟨rfl, hd, hb, hk⟩
              have M4 := Lib.hid (M3.out.turn hd hb hk).rowNil
              clear hd hb hk
              go_wp2_with fail
              go_roundg (acts.length - (i + 1))
              case measure => have := HIG.out; omega
              case rel => exact ⟨i + 1, g2, [], d3, l3, [], by have := HIG.out; omega, by go_num, rfl, M4.out, HWI.out.mono (by omega), rfl, HUP.out, Nat.zero_le _⟩
      · have b0 : (dd == 0) = false := by simpa using h0
        have b1 : (dd == 1) = false := by simpa using h1
        have b3 : (dd == 3) = false := by simpa using h3
        have b4 : (dd == 4) = false := by simpa using h4
        clear h0 h1 h3 h4
        go_wp2_with fail
        go_roundg (acts.length - (i + 1))
        case measure => have := HIG.out; omega
        case rel => exact ⟨i + 1, g, all, d, l, ss, by have := HIG.out; omega, by go_num, rfl, M0.out, HWI.out.mono (by omega), HPAR.out, HUP.out, by have := HALL.out; omega⟩
    · go_wp2_with fail
      refine (wakes_true wr (MK.out.tbl HT.out rfl)).mono ?_
      rintro e w9 ⟨rfl, hk⟩
      have K9 := Lib.hid (MK.out.kp.trans hk.of_false)
      clear hk
      go_wp2_with fail
      go_ret
      exact ⟨rfl, K9.out⟩
end Go.Proofs.YtfcljcikajaedaaGreatDoor
