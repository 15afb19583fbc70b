/- The law of pages, part 19 of 55: WlPut WlFormat. -/
import Derived.Test.YtepaeliamhjgiaaGreatDoorMu1
import Derived.Test.YtepaeliamhjgiaaGreatDoorMu18
import Derived.Test.YtepaeliamhjgiaaGreatDoorMu13
import Derived.Test.YtepaeliamhjgiaaGreatDoorMu5
set_option maxHeartbeats 16000000
set_option maxRecDepth 100000
namespace Go.Proofs.YtepaeliamhjgiaaGreatDoor
open Go.RowKit Go.Maps
theorem putAll_cons (n : Nat) (s : Sh) (r : List Sh) (d : Dm) : Dm.putAll n (s :: r) d = if (d.writeS ((2 + s.q % n : Nat) : Int) (secL s.q s.last s.t)).2 = 0 then Dm.putAll n r (d.writeS ((2 + s.q % n : Nat) : Int) (secL s.q s.last s.t)).1 else d.writeS ((2 + s.q % n : Nat) : Int) (secL s.q s.last s.t) := by
 show (match d.writeS ((2 + s.q % n : Nat) : Int) (secL s.q s.last s.t) with | (d1, e) => if e = 0 then Dm.putAll n r d1 else (d1, e)) = _
 rcases d.writeS ((2 + s.q % n : Nat) : Int) (secL s.q s.last s.t) with ⟨d1, e⟩
 rfl
theorem writeS_wait (d : Dm) (a : Int) (l : List UInt8) : (d.writeS a l).1.wait.length <= d.wait.length + 1 := by
 unfold Dm.writeS
 split
 ·exact Nat.le_succ _
 ·split
  ·exact Nat.le_succ _
  ·split
   ·simp [Dm.lose]
   ·simp [Dm.push, Dm.act]
section
variable {w : World} {b : Nat} {d : Dm} {F : Nat -> Prop}
theorem put_any2 (hF : ∀ k, w.heap.size <= k -> F k) (hFT : ¬ F 1) (hD : Dsk F w b d) (ht : Tbl w) (n q : Nat) (tx : List UInt8) (hn0 : 0 < n) (hn : n <= 512) (hq : q < 18446744073709551616) (htx : tx.length <= 1000000) (hw : d.wait.length + 10000 < 1073741824) :
  Calls Tryz.prog 126 #[.pointer (some ⟨b, 0, none⟩), .int .i64 n, .int .u64 q, .string ⟨tx.toArray⟩] w fun e w' => e = .returned (.int .i64 (Dm.putAll n (cutL q tx) d).2) /\ Dsk F w' b (Dm.putAll n (cutL q tx) d).1 /\ Kp F w w' := by
 have HF := hHd hF
 have HFT := hHd hFT
 have DD := hHd hD
 have HT := hHd ht
 have HWT := hHd hw
 have hneed : need tx.length <= 5000 := by unfold need; omega
 have HTX := hHd htx
 have HQ := hHd hq
 clear hF hFT hD ht hw htx hq
 obtain ⟨m, hm⟩ : ∃ m, need tx.length = m := ⟨_, rfl⟩
 obtain ⟨L, hL⟩ : ∃ L, cutL q tx = L := ⟨_, rfl⟩
 rw [hm] at hneed
 rw [hL]
 have HM := hHd hm
 have HL0 := hHd hL
 have HLL := hHd (show L.length = m by rw [<- hL, cutL_length, hm])
 have HSH := hHd (show ∀ s ∈ L, s.q < 18446744073709551616 /\ s.t.length <= 497 by
  rw [<- hL]
  intro s hs
  simp only [cutL, List.mem_map] at hs
  obtain ⟨i, _, rfl⟩ := hs
  exact ⟨shAt_lt _ _ _, shAt_le _ _ _⟩)
 clear hm hL
 go_enter Tryz.func126, Tryz.ntmps126
 go_wp2_with fail
 refine (cut_any q tx w HQ.out (by have := HTX.out; omega)).mono ?_
 rintro e w1 ⟨v, rfl, hown, hk⟩
 obtain ⟨A, c, rfl⟩ := own_shape3 hown
 have R1 := hHd hown
 have K1 := hHd hk
 have D1 := hHd (DD.out.still hk)
 rw [HM.out, HL0.out] at R1
 rw [HM.out]
 clear hown hk
 go_wp2_with fail
 go_loopw [18] (fun s18 wr => ∃ (k : Nat) (d' : Dm), k <= m /\ s18 = .int .i64 k /\ Dm.putAll n (L.drop k) d' = Dm.putAll n L d /\ Dsk F wr b d' /\ wr.ownsRow w.heap.size 172 3 (.slice A m c) m (rowS L) /\ Kp F w wr /\ d'.wait.length <= d.wait.length + k)
  (fun s18 _ => m - (intOf s18).toNat)
 case atStart => exact ⟨0, d, Nat.zero_le _, rfl, by rw [List.drop_zero], D1.out, R1.out, K1.out.of_false, Nat.le_refl _⟩
 case round =>
  obtain ⟨k, d', hkm, rfl, hsum, hdk, hrow, hkp, hwt⟩ := hrel
  have HS := hHd hsum
  have HD := hHd hdk
  have HR := hHd hrow
  have HK := hHd hkp
  have HW := hHd (show d'.wait.length + 1 < 1073741824 by have := HWT.out; omega)
  have HW2 := hHd hwt
  clear hsum hdk hrow hkp hwt
  by_cases hlt : k < m
  ·have hkl : k < L.length := by have := HLL.out; omega
   obtain ⟨s, hs⟩ : ∃ s, L[k] = s := ⟨_, rfl⟩
   obtain ⟨b1, o1, hA, c0, c1, c2⟩ := (RdS.of_own HR.out).three hkl
   subst hA
   rw [hs] at c0 c1 c2
   obtain ⟨hsq, hst⟩ := HSH.out s (by rw [<- hs]; exact List.getElem_mem hkl)
   have HDR := hHd (show L.drop k = s :: L.drop (k + 1) by rw [List.drop_eq_getElem_cons hkl, hs])
   have HSUM := hHd (show (if (d'.writeS ((2 + s.q % n : Nat) : Int) (secL s.q s.last s.t)).2 = 0 then Dm.putAll n (L.drop (k + 1)) (d'.writeS ((2 + s.q % n : Nat) : Int) (secL s.q s.last s.t)).1 else d'.writeS ((2 + s.q % n : Nat) : Int) (secL s.q s.last s.t)) = Dm.putAll n L d by rw [<- putAll_cons, <- HDR.out]; exact HS.out)
   obtain ⟨p1, hp1⟩ : ∃ p1, o1 + 3 * k = p1 := ⟨_, rfl⟩
   rw [hp1] at c0 c1 c2
   have hq1 : o1 + k * 3 = p1 := by omega
   have HSQ := hHd hsq
   have HST := hHd hst
   have HTW := hHd (HT.out.kp HK.out HFT.out)
   have B2 := hHd (Box.new wr 172 #[.int .u64 s.q, .bool s.last, .string ⟨s.t.toArray⟩])
   have K2 := hHd ((Kp.refl (fun _ => False) wr).alloc (.cells #[.int .u64 s.q, .bool s.last, .string ⟨s.t.toArray⟩] 172))
   clear hs hp1 hsq hst hkl
   go_upto_region 4 with fail
   generalize wr.alloc (.cells #[.int .u64 s.q, .bool s.last, .string ⟨s.t.toArray⟩] 172) = w2 at *
   generalize hgg : wr.heap.size = g2 at *
   have HGG := hHd hgg
   clear c0 c1 c2 hq1 hgg
   have e0 := B2.out.cell 0
   have e1 := B2.out.cell 1
   have e2 := B2.out.cell 2
   simp at e0 e1 e2
   go_wp2_with fail
   refine (put_own s.q s.last ⟨s.t.toArray⟩ w2 HSQ.out (by rw [note_size]; exact HST.out) (HTW.out.kp K2.out (fun e => e))).mono ?_
   rintro e w3 ⟨g3, c3, rfl, _, _, ho3, _, hk3⟩
   have hts : tb ⟨s.t.toArray⟩ = s.t := by show s.t.toArray.toList = s.t; simp
   rw [hts] at ho3
   have B3 := hHd (B2.out.kp hk3 (fun e => e))
   have K3 := hHd (K2.out.trans hk3)
   have O3 := hHd ho3
   clear e0 e1 e2 ho3 hk3 hts
   have e0 := B3.out.cell 0
   simp at e0
   go_wp2_with fail
   refine (place_any s.q n w3 HSQ.out hn0 hn).mono ?_
   rintro e w4 ⟨rfl, rfl⟩
   have hl5 : (secL s.q s.last s.t).length = 512 := secL_length _ _ _ HST.out
   have hwr := write_any (newG (G := F) (w := wr) (fun k hk => HF.out k (Nat.le_trans HK.out.size hk)) K3.out.size) (HD.out.still K3.out).bothG ((2 + s.q % n : Nat) : Int) (some ⟨g3, 0, none⟩) (secL s.q s.last s.t) c3 (Rd.of_own O3.out) (own_off_type O3.out (by decide)) HW.out
   rw [hl5] at hwr
   have HWW := hHd (writeS_wait d' ((2 + s.q % n : Nat) : Int) (secL s.q s.last s.t))
   generalize hr : d'.writeS ((2 + s.q % n : Nat) : Int) (secL s.q s.last s.t) = r at *
   generalize ((2 + s.q % n : Nat) : Int) = pl at *
   clear hl5 hr
   go_wp2_with fail
   refine hwr.mono ?_
   clear hwr e0
   rintro e w4 ⟨rfl, hd4, hk4⟩
   have HD4 := hHd (hd4.mono (F' := F) (fun _ e => e.1))
   have HK4 := hHd ((HK.out.trans K3.out.of_false).trans (hk4.mono (fun _ _ e => e.1)))
   have HR4 := hHd (down_kp (down_kp HR.out K3.out (fun _ _ e => e)) hk4 (fun k e h2 => by
    obtain ⟨cur, hc⟩ := own_block (down_kp HR.out K3.out (fun _ _ e => e)) e
    exact not_DT hc ⟨by decide, by decide, by decide⟩ h2.2))
   clear hd4 hk4
   obtain ⟨r1, r2⟩ := r
   by_cases hz : r2 = 0
   ·subst hz
    have HS5 := hHd (show Dm.putAll n (L.drop (k + 1)) r1 = Dm.putAll n L d by have := HSUM.out; rwa [if_pos rfl] at this)
    go_wp2_with fail
    go_roundw
    case rel =>
     exact ⟨k + 1, r1, by omega, by go_num, HS5.out, HD4.out, HR4.out, HK4.out, by have h1 : r1.wait.length <= d'.wait.length + 1 := HWW.out; have := HW2.out; omega⟩
    case measure => simp [intOf]; omega
   ·have HS5 := hHd (show (r1, r2) = Dm.putAll n L d by have := HSUM.out; rwa [if_neg hz] at this)
    have hne : (r2 != 0) = true := by simpa using hz
    clear hz
    go_wp2_with fail
    go_ret
    rw [<- HS5.out]
    exact ⟨rfl, HD4.out, HK4.out⟩
  ·have HS5 := hHd (show d'.flushS = Dm.putAll n L d by
    have := HS.out
    rw [List.drop_of_length_le (by have := HLL.out; omega)] at this
    exact this)
   go_wp2_with fail
   refine (flush_any HD.out).mono ?_
   rintro e w3 ⟨rfl, hd, hk⟩
   have D3 := hHd hd
   have K3 := hHd (HK.out.trans hk)
   clear hd hk
   go_wp2_with fail
   go_ret
   rw [<- HS5.out]
   exact ⟨rfl, D3.out, K3.out⟩
end
theorem isNext_lt {F : Nat -> Option Sh} {f r : Nat} (h : IsNext F f r) (hf : f < 18446744073709551616) : r < 18446744073709551616 := by
 rcases h.2.2 with e | ⟨q, s, _, e⟩
 ·rw [e]; exact hf
 ·rw [e]; exact Nat.mod_lt _ (by decide)
theorem newOk (g f m : Nat) (note : List UInt8) (hf : f < 18446744073709551616) (hm : 96 <= m /\ m <= 512) (hn : note.length <= 64) : (⟨(g + 1) % 18446744073709551616, f, m, note⟩ : Hd).ok :=
 ⟨Nat.mod_lt _ (by decide), hf, hm.1, hm.2, hn⟩
theorem countV_on {d : Dm} (hp : d.power = true) : ∃ h0 a0 ok0, a0 <= 1 /\ countV d = .tuple #[.agg (hcs h0 a0).toArray, .bool ok0, .int .i64 0] /\ ∀ f n note, d.nextH f n note = (⟨(h0.g + 1) % 18446744073709551616, f, n, note⟩, 1 - a0) := by
 unfold countV Dm.nextH
 rw [hp, if_pos rfl]
 rcases hh : d.heads with _ | ⟨h, a⟩
 ·exact ⟨⟨0, 0, 0, []⟩, 0, false, by omega, rfl, fun _ _ _ => rfl⟩
 ·refine ⟨h, a, true, ?_, rfl, fun _ _ _ => rfl⟩
  rcases countS_at hh with ⟨e, _⟩ | ⟨e, _⟩ <;> omega
section
variable {w : World} {b : Nat} {d : Dm} {F : Nat -> Prop}
theorem format_any (hF : ∀ k, w.heap.size <= k -> F k) (hD : Dsk F w b d) (ht : Tbl w) (n : Int) (note : List UInt8) (hw : d.wait.length + 1 < 1073741824) :
  Calls Tryz.prog 58 #[.pointer (some ⟨b, 0, none⟩), .int .i64 n, .string ⟨note.toArray⟩] w fun e w' => e = .returned (.int .i64 (d.formatS n note).2) /\ Dsk F w' b (d.formatS n note).1 /\ Kp F w w' := by
 have HF := hHd hF
 have DD := hHd hD
 have HT := hHd ht
 have HWT := hHd hw
 have hfew : d.on.length <= 4096 := by obtain ⟨_, _, _, h1, _⟩ := hD; exact h1.ok.few
 have hfm : d.formatS n note = if !mayFormat d n note then (d, 2) else if !d.power then (d, 4) else d.putHead (d.nextH (nextF d.nowAt n.toNat 1) n.toNat note).2 (d.nextH (nextF d.nowAt n.toNat 1) n.toNat note).1 := rfl
 have hmf : mayFormat d n note = (secsB n && decide (2 + n <= d.on.length) && noteB note) := rfl
 clear hF hD ht hw
 rcases hsb : secsB n with _ | _
 ·have HX := hHd (show d.formatS n note = (d, 2) by rw [hfm, hmf, hsb]; rfl)
  clear hfm hmf
  go_enter Tryz.func58, Tryz.ntmps58
  go_wp2_with fail
  refine (maySectors_any n w).mono ?_
  rintro e w1 ⟨rfl, rfl⟩
  rw [hsb]
  clear hsb
  go_wp2_with fail
  go_ret
  rw [HX.out]
  exact ⟨rfl, DD.out, Kp.refl _ _⟩
 obtain ⟨m, rfl⟩ : ∃ m : Nat, n = m := ⟨n.toNat, by simp only [secsB, Bool.and_eq_true, decide_eq_true_eq] at hsb; omega⟩
 have hms : 96 <= m /\ m <= 512 := by simp only [secsB, Bool.and_eq_true, decide_eq_true_eq] at hsb; omega
 have hmt : ((m : Nat) : Int).toNat = m := by omega
 rw [hmt] at hfm
 by_cases hlen : 2 + m <= d.on.length
 ·have hd1 : decide (2 + (m : Int) <= d.on.length) = true := by simp; omega
  have hd2 : decide ((d.on.length : Int) < 2 + (m : Int)) = false := by simp; omega
  rcases hnb : noteB note with _ | _
  ·have HX := hHd (show d.formatS m note = (d, 2) by rw [hfm, hmf, hsb, hd1, hnb]; rfl)
   clear hfm hmf hmt hd1
   have hm5 : (m : Int) <= 512 := by omega
   go_enter Tryz.func58, Tryz.ntmps58
   go_wp2_with fail
   refine (maySectors_any m w).mono ?_
   rintro e w1 ⟨rfl, rfl⟩
   rw [hsb]
   go_wp2_with fail
   refine (len_any DD.out).mono ?_
   rintro e w1 ⟨rfl, rfl⟩
   go_wp2_with fail
   refine (mayNote_any note w).mono ?_
   rintro e w1 ⟨rfl, rfl⟩
   rw [hnb]
   clear hsb hnb
   go_wp2_with fail
   go_ret
   rw [HX.out]
   exact ⟨rfl, DD.out, Kp.refl _ _⟩
  rcases hpw : d.power with _ | _
  ·have HX := hHd (show d.formatS m note = (d, 4) by rw [hfm, hmf, hsb, hd1, hnb, hpw]; rfl)
   have HCV := hHd (show countV d = .tuple #[.agg #[.int .u64 0, .int .u64 0, .int .i64 0, .string ⟨#[]⟩, .int .i64 0], .bool false, .int .i64 4] by rw [countV, hpw]; rfl)
   clear hfm hmf hmt hd1 hpw
   have hm5 : (m : Int) <= 512 := by omega
   go_enter Tryz.func58, Tryz.ntmps58
   go_wp2_with fail
   refine (maySectors_any m w).mono ?_
   rintro e w1 ⟨rfl, rfl⟩
   rw [hsb]
   go_wp2_with fail
   refine (len_any DD.out).mono ?_
   rintro e w1 ⟨rfl, rfl⟩
   go_wp2_with fail
   refine (mayNote_any note w).mono ?_
   rintro e w1 ⟨rfl, rfl⟩
   rw [hnb]
   clear hsb hnb
   go_wp2_with fail
   refine (counting_any DD.out HT.out).mono ?_
   rintro e w1 ⟨rfl, hk⟩
   rw [HCV.out]
   have K1 := hHd hk
   clear hk
   go_wp2_with fail
   go_ret
   rw [HX.out]
   exact ⟨rfl, DD.out.still (K1.out.alloc _), K1.out.of_false.alloc _⟩
  ·obtain ⟨h0, a0, ok0, ha0, hcv, hnx⟩ := countV_on hpw
   simp only [hcs] at hcv
   have HX := hHd (show d.formatS m note = d.putHead (1 - a0) ⟨(h0.g + 1) % 18446744073709551616, nextF d.nowAt m 1, m, note⟩ by rw [hfm, hmf, hsb, hd1, hnb, hpw, hnx]; rfl)
   have HCV := hHd hcv
   have HPW := hHd hpw
   have HA0 := hHd ha0
   have HMS := hHd hms
   have HNT := hHd (show note.length <= 64 from of_decide_eq_true hnb)
   have hm0 : 0 < m := by omega
   have hm5 : (m : Int) <= 512 := by omega
   clear hfm hmf hmt hd1 hpw hcv hnx ha0 hms
   go_enter Tryz.func58, Tryz.ntmps58
   go_wp2_with fail
   refine (maySectors_any m w).mono ?_
   rintro e w1 ⟨rfl, rfl⟩
   rw [hsb]
   go_wp2_with fail
   refine (len_any DD.out).mono ?_
   rintro e w1 ⟨rfl, rfl⟩
   go_wp2_with fail
   refine (mayNote_any note w).mono ?_
   rintro e w1 ⟨rfl, rfl⟩
   rw [hnb]
   clear hsb hnb
   go_wp2_with fail
   refine (counting_any DD.out HT.out).mono ?_
   rintro e w1 ⟨rfl, hk⟩
   rw [HCV.out]
   have B2 := hHd (Box.new w1 122 #[.int .u64 h0.g, .int .u64 h0.f, .int .i64 h0.n, .string ⟨h0.note.toArray⟩, .int .i64 a0])
   have K2 := hHd (hk.alloc (.cells #[.int .u64 h0.g, .int .u64 h0.f, .int .i64 h0.n, .string ⟨h0.note.toArray⟩, .int .i64 a0] 122))
   have hg7 := hk.size
   clear hk
   go_upto_region 6 with fail
   generalize w1.alloc (.cells #[.int .u64 h0.g, .int .u64 h0.f, .int .i64 h0.n, .string ⟨h0.note.toArray⟩, .int .i64 a0] 122) = w2 at *
   generalize w1.heap.size = g7 at *
   have D2 := hHd (DD.out.still K2.out)
   go_wp2_with fail
   refine (inPlace_any D2.out (HT.out.kp K2.out (fun e => e)) m hm0 (by omega) (by omega) HPW.out).mono ?_
   rintro e w3 ⟨gm, rfl, _, hfm3, hk3⟩
   have B3 := hHd (B2.out.kp hk3 (fun e => e))
   have K3 := hHd (K2.out.trans hk3)
   have F3 := hHd hfm3
   have hglt := B3.out.lt
   have hmg : gm ≠ g7 := by
    rintro rfl
    obtain ⟨n1, D1, ⟨es, clock, hb, _⟩, _⟩ := hfm3
    have := B3.out
    unfold Box at this
    rw [hb] at this
    cases this
   clear hfm3 hk3
   have c2 := B3.out.cell 2
   have c3 := B3.out.cell 3
   have f2 := B3.out.free 2
   have f3 := B3.out.free 3
   simp at c2 c3
   go_upto_region 12 with fail
   have B6 := hHd (show Box ((w3.setCell ⟨g7, 2, none⟩ (.int .i64 m)).setCell ⟨g7, 3, none⟩ (.string ⟨note.toArray⟩)) g7 122 #[.int .u64 h0.g, .int .u64 h0.f, .int .i64 m, .string ⟨note.toArray⟩, .int .i64 a0] from (B3.out.put 2 (.int .i64 m)).put 3 (.string ⟨note.toArray⟩))
   have K6 := hHd ((K3.out.setCell (p := ⟨g7, 2, none⟩) (.inl hg7) (.int .i64 m)).setCell (p := ⟨g7, 3, none⟩) (.inl hg7) (.string ⟨note.toArray⟩))
   have FM := hHd (F3.out.kp ((Kp.one w3 g7 2 (.int .i64 m)).trans (Kp.one _ g7 3 (.string ⟨note.toArray⟩))) hmg)
   clear c2 c3 f2 f3
   generalize ((w3.setCell ⟨g7, 2, none⟩ (.int .i64 m)).setCell ⟨g7, 3, none⟩ (.string ⟨note.toArray⟩)) = w6 at *
   refine wp_region_held_drew (S := fun v => v.cell? ⟨g7, 0, none⟩ = some (.int .u64 h0.g) /\ v.cell? ⟨g7, 1, none⟩ = some (.int .u64 h0.f) /\ v.cell? ⟨g7, 2, none⟩ = some (.int .i64 m) /\ v.cell? ⟨g7, 3, none⟩ = some (.string ⟨note.toArray⟩) /\ v.cell? ⟨g7, 4, none⟩ = some (.int .i64 a0)) (by kernel_rfl) (⟨(B6.out.cell 0), (B6.out.cell 1), (B6.out.cell 2), (B6.out.cell 3), (B6.out.cell 4)⟩) (fun hHeld => ?_)
   refine tk 0 (h := ?_)
   refine tk 1 (h := ?_)
   refine tk 4 (h := ?_)
   refine rd 2 (h := fun K hK => ?_)
   go_simp
   refine (behind_any (FM.out.kp (Kp.refl (fun _ => False) w6).drew (fun e => e)) (fun q s hs => by have h1 := sheetF_q hs; rw [<- h1.1]; exact (takeS_lt h1.2).1) 1 (by decide)).mono ?_
   rintro e w7 ⟨r, rfl, hr, hk⟩
   have B7 := hHd ((B6.out.drew).kp hk (fun e => e))
   have K7 := hHd (K6.out.drew.trans hk)
   have HRN := hHd (hr.one (nextF_is d.nowAt m 1 hm0))
   have HRL := hHd (isNext_lt hr (by decide))
   clear hr hk
   go_wp2_with fail
   refine hK.out _ _ (⟨(B7.out.cell 0), (B7.out.cell 1), (B7.out.cell 2), (B7.out.cell 3), (B7.out.cell 4)⟩) (fun hHeld1 => ?_)
   clear hK K
   try simp only [Act.put, sIa, sI0, sI1]
   refine rd 3 (h := fun K hK => ?_)
   go_simp
   have hfo := follow_any ⟨h0.g, h0.f, m, note⟩ a0 r w7 HA0.out
   simp only [hcs] at hfo
   refine hfo.mono ?_
   clear hfo
   rintro e w8 ⟨rfl, hk⟩
   have B8 := hHd (B7.out.kp hk (fun e => e))
   have K8 := hHd (K7.out.trans hk)
   have D8 := hHd (DD.out.still K8.out)
   clear hk
   go_wp2_with fail
   refine hK.out _ _ (⟨(B8.out.cell 0), (B8.out.cell 1), (B8.out.cell 2), (B8.out.cell 3), (B8.out.cell 4)⟩) (fun hHeld2 => ?_)
   clear hK K
   try simp only [Act.put, sIa, sI0, sI1]
   refine rd 5 (h := fun K hK => ?_)
   go_simp
   have hwr := hwrite_any (newG HF.out K8.out.size) D8.out.bothG (HT.out.kp K8.out (fun e => e)) ⟨(h0.g + 1) % 18446744073709551616, r, m, note⟩ (1 - a0) (newOk h0.g r m note HRL.out HMS.out HNT.out) HWT.out
   simp only [hcs] at hwr
   refine hwr.mono ?_
   clear hwr
   rintro e w9 ⟨rfl, hd, hk⟩
   have D9 := hHd (hd.mono (F' := F) (fun _ e => e.1))
   have K9 := hHd (K8.out.of_false.trans (hk.mono (fun _ _ e => e.1)))
   have B9 := hHd (B8.out.kp hk (fun e => not_DT B8.out ⟨by decide, by decide, by decide⟩ e.2))
   clear hd hk
   go_wp2_with fail
   refine hK.out _ _ (⟨(B9.out.cell 0), (B9.out.cell 1), (B9.out.cell 2), (B9.out.cell 3), (B9.out.cell 4)⟩) (fun hHeld3 => ?_)
   clear hK K
   try simp only [Act.put, sIa, sI0, sI1]
   refine tk 6 (h := ?_)
   refine wpAnyH_done (by kernel_rfl) ?_ _
   go_wp2_with fail
   go_ret
   rw [HX.out, <- HRN.out]
   exact ⟨rfl, D9.out, K9.out⟩
 ·have hd1 : decide (2 + (m : Int) <= d.on.length) = false := by simp; omega
  have hd2 : decide ((d.on.length : Int) < 2 + (m : Int)) = true := by simp; omega
  have HX := hHd (show d.formatS m note = (d, 2) by rw [hfm, hmf, hsb, hd1]; rfl)
  clear hfm hmf hmt hd1
  have hm5 : (m : Int) <= 512 := by omega
  go_enter Tryz.func58, Tryz.ntmps58
  go_wp2_with fail
  refine (maySectors_any m w).mono ?_
  rintro e w1 ⟨rfl, rfl⟩
  rw [hsb]
  go_wp2_with fail
  refine (len_any DD.out).mono ?_
  rintro e w1 ⟨rfl, rfl⟩
  clear hsb
  go_wp2_with fail
  go_ret
  rw [HX.out]
  exact ⟨rfl, DD.out, Kp.refl _ _⟩
end
end Go.Proofs.YtepaeliamhjgiaaGreatDoor
