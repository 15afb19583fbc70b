/- What wal.put does: a text's sheets are written, and the disk flushed. Conditions: the table of half bytes reads as the program's text lays it; fewer than 2^30 writes that wait; a text of at most 2^32 bytes. -/
import Derived.Test.YtfcljcikajaedaaDoorMg40
import Derived.Test.YtfcljcikajaedaaDoorMg8
namespace Go.Proofs.YtfcljcikajaedaaDoor
open Go.RowKit Go.Maps

theorem putAll_cons (n : Nat) (s : Sh) (r : List Sh) (d : Dm) : Dm.putAll n (s :: r) d = if (d.writeS ((2 + s.q % n : Nat) : Int) (secL s.q s.last s.t)).2 = 0 then Dm.putAll n r (d.writeS ((2 + s.q % n : Nat) : Int) (secL s.q s.last s.t)).1 else d.writeS ((2 + s.q % n : Nat) : Int) (secL s.q s.last s.t) := by
  show (match d.writeS ((2 + s.q % n : Nat) : Int) (secL s.q s.last s.t) with | (d1, e) => if e = 0 then Dm.putAll n r d1 else (d1, e)) = _
  rcases d.writeS ((2 + s.q % n : Nat) : Int) (secL s.q s.last s.t) with ⟨d1, e⟩
  rfl
theorem writeS_wait (d : Dm) (a : Int) (l : List UInt8) : (d.writeS a l).1.wait.length ≤ d.wait.length + 1 := by
  unfold Dm.writeS
  split
  · exact Nat.le_succ _
  · split
    · exact Nat.le_succ _
    · split
      · simp [Dm.lose]
      · simp [Dm.push, Dm.act]
section
variable {w : World} {b : Nat} {d : Dm} {F : Nat → Prop}
set_option maxRecDepth 100000 in
set_option maxHeartbeats 8000000 in
theorem put_any2 (hF : ∀ k, w.heap.size ≤ k → F k) (hFT : ¬ F 0) (hD : Dsk F w b d) (ht : Tbl w) (n q : Nat) (tx : List UInt8) (hn0 : 0 < n) (hn : n ≤ 512) (hq : q < 18446744073709551616) (htx : tx.length ≤ 1000000) (hw : d.wait.length + 10000 < 1073741824) :
    Calls Tryd.prog 25 #[.pointer (some ⟨b, 0, none⟩), .int .i64 n, .int .u64 q, .string ⟨tx.toArray⟩] w fun e w' => e = .returned (.int .i64 (Dm.putAll n (cutL q tx) d).2) ∧ Dsk F w' b (Dm.putAll n (cutL q tx) d).1 ∧ Kp F w w' := by
  have HF := Lib.hid hF
  have HFT := Lib.hid hFT
  have DD := Lib.hid hD
  have HT := Lib.hid ht
  have HWT := Lib.hid hw
  have hneed : need tx.length ≤ 5000 := by unfold need; omega
  have HTX := Lib.hid htx
  have HQ := Lib.hid hq
  clear hF hFT hD ht hw htx hq
  obtain ⟨m, hm⟩ : ∃ m, need tx.length = m := ⟨_, rfl⟩
  obtain ⟨L, hL⟩ : ∃ L, cutL q tx = L := ⟨_, rfl⟩
  rw [hm] at hneed
  rw [hL]
  have HM := Lib.hid hm
  have HL0 := Lib.hid hL
  have HLL := Lib.hid (show L.length = m by rw [← hL, cutL_length, hm])
  have HSH := Lib.hid (show ∀ s ∈ L, s.q < 18446744073709551616 ∧ s.t.length ≤ 497 by
    rw [← hL]
    intro s hs
    simp only [cutL, List.mem_map] at hs
    obtain ⟨i, _, rfl⟩ := hs
    exact ⟨shAt_lt _ _ _, shAt_le _ _ _⟩)
  clear hm hL
  go_enter Tryd.func25, Tryd.ntmps25
  go_wp2_with fail
  refine (cut_any q tx w HQ.out (by have := HTX.out; omega)).mono ?_
  rintro e w1 ⟨v, rfl, hown, hk⟩
  obtain ⟨A, c, rfl⟩ := own_shape3 hown
  have R1 := Lib.hid hown
  have K1 := Lib.hid hk
  have D1 := Lib.hid (DD.out.still hk)
  rw [HM.out, HL0.out] at R1
  rw [HM.out]
  clear hown hk
  go_wp2_with fail
  go_loopw [18] (fun s18 wr => ∃ (k : Nat) (d' : Dm), k ≤ m ∧ s18 = .int .i64 k ∧ Dm.putAll n (L.drop k) d' = Dm.putAll n L d ∧ Dsk F wr b d' ∧ wr.ownsRow w.heap.size 70 3 (.slice A m c) m (rowS L) ∧ Kp F w wr ∧ d'.wait.length ≤ d.wait.length + k)
    (fun s18 _ => m - (intOf s18).toNat)
  case atStart => exact ⟨0, d, Nat.zero_le _, rfl, by rw [List.drop_zero], D1.out, R1.out, K1.out.of_false, Nat.le_refl _⟩
  case round =>
    obtain ⟨k, d', hkm, rfl, hsum, hdk, hrow, hkp, hwt⟩ := hrel
    have HS := Lib.hid hsum
    have HD := Lib.hid hdk
    have HR := Lib.hid hrow
    have HK := Lib.hid hkp
    have HW := Lib.hid (show d'.wait.length + 1 < 1073741824 by have := HWT.out; omega)
    have HW2 := Lib.hid hwt
    clear hsum hdk hrow hkp hwt
    by_cases hlt : k < m
    · have hkl : k < L.length := by have := HLL.out; omega
      obtain ⟨s, hs⟩ : ∃ s, L[k] = s := ⟨_, rfl⟩
      obtain ⟨b1, o1, hA, c0, c1, c2⟩ := (RdS.of_own HR.out).three hkl
      subst hA
      rw [hs] at c0 c1 c2
      obtain ⟨hsq, hst⟩ := HSH.out s (by rw [← hs]; exact List.getElem_mem hkl)
      have HDR := Lib.hid (show L.drop k = s :: L.drop (k + 1) by rw [List.drop_eq_getElem_cons hkl, hs])
      have HSUM := Lib.hid (show (if (d'.writeS ((2 + s.q % n : Nat) : Int) (secL s.q s.last s.t)).2 = 0 then Dm.putAll n (L.drop (k + 1)) (d'.writeS ((2 + s.q % n : Nat) : Int) (secL s.q s.last s.t)).1 else d'.writeS ((2 + s.q % n : Nat) : Int) (secL s.q s.last s.t)) = Dm.putAll n L d by rw [← putAll_cons, ← HDR.out]; exact HS.out)
      obtain ⟨p1, hp1⟩ : ∃ p1, o1 + 3 * k = p1 := ⟨_, rfl⟩
      rw [hp1] at c0 c1 c2
      have hq1 : o1 + k * 3 = p1 := by omega
      have HSQ := Lib.hid hsq
      have HST := Lib.hid hst
      have HTW := Lib.hid (HT.out.kp HK.out HFT.out)
      have B2 := Lib.hid (Box.new wr 70 #[.int .u64 s.q, .bool s.last, .string ⟨s.t.toArray⟩])
      have K2 := Lib.hid ((Kp.refl (fun _ => False) wr).alloc (.cells #[.int .u64 s.q, .bool s.last, .string ⟨s.t.toArray⟩] 70))
      clear hs hp1 hsq hst hkl
      go_upto_region 4 with fail
      generalize wr.alloc (.cells #[.int .u64 s.q, .bool s.last, .string ⟨s.t.toArray⟩] 70) = w2 at *
      generalize hgg : wr.heap.size = g2 at *
      have HGG := Lib.hid hgg
      clear c0 c1 c2 hq1 hgg
      have e0 := B2.out.cell 0
      have e1 := B2.out.cell 1
      have e2 := B2.out.cell 2
      simp at e0 e1 e2
      go_wp2_with fail
      refine (put_own s.q s.last ⟨s.t.toArray⟩ w2 HSQ.out (by rw [note_size]; exact HST.out) (HTW.out.kp K2.out (fun e => e))).mono ?_
      rintro e w3 ⟨g3, c3, rfl, _, _, ho3, _, hk3⟩
      have hts : tb ⟨s.t.toArray⟩ = s.t := by show s.t.toArray.toList = s.t; simp
      rw [hts] at ho3
      have B3 := Lib.hid (B2.out.kp hk3 (fun e => e))
      have K3 := Lib.hid (K2.out.trans hk3)
      have O3 := Lib.hid ho3
      clear e0 e1 e2 ho3 hk3 hts
      have e0 := B3.out.cell 0
      simp at e0
      go_wp2_with fail
      refine (place_any s.q n w3 HSQ.out hn0 hn).mono ?_
      rintro e w4 ⟨rfl, rfl⟩
      have hl5 : (secL s.q s.last s.t).length = 512 := secL_length _ _ _ HST.out
      have hwr := write_any (newG (G := F) (w := wr) (fun k hk => HF.out k (Nat.le_trans HK.out.size hk)) K3.out.size) (HD.out.still K3.out).bothG ((2 + s.q % n : Nat) : Int) (some ⟨g3, 0, none⟩) (secL s.q s.last s.t) c3 (Rd.of_own O3.out) (own_off_type O3.out (by decide)) HW.out
      rw [hl5] at hwr
      have HWW := Lib.hid (writeS_wait d' ((2 + s.q % n : Nat) : Int) (secL s.q s.last s.t))
      generalize hr : d'.writeS ((2 + s.q % n : Nat) : Int) (secL s.q s.last s.t) = r at *
      generalize ((2 + s.q % n : Nat) : Int) = pl at *
      clear hl5 hr
      go_wp2_with fail
      refine hwr.mono ?_
      clear hwr e0
      rintro e w4 ⟨rfl, hd4, hk4⟩
      have HD4 := Lib.hid (hd4.mono (F' := F) (fun _ e => e.1))
      have HK4 := Lib.hid ((HK.out.trans K3.out.of_false).trans (hk4.mono (fun _ _ e => e.1)))
      have HR4 := Lib.hid (down_kp (down_kp HR.out K3.out (fun _ _ e => e)) hk4 (fun k e h2 => by
        obtain ⟨cur, hc⟩ := own_block (down_kp HR.out K3.out (fun _ _ e => e)) e
        exact not_DT hc ⟨by decide, by decide, by decide⟩ h2.2))
      clear hd4 hk4
      obtain ⟨r1, r2⟩ := r
      by_cases hz : r2 = 0
      · subst hz
        have HS5 := Lib.hid (show Dm.putAll n (L.drop (k + 1)) r1 = Dm.putAll n L d by have := HSUM.out; rwa [if_pos rfl] at this)
        go_wp2_with fail
        go_roundw
        case rel =>
          exact ⟨k + 1, r1, by omega, by go_num, HS5.out, HD4.out, HR4.out, HK4.out, by have h1 : r1.wait.length ≤ d'.wait.length + 1 := HWW.out; have := HW2.out; omega⟩
        case measure => simp [intOf]; omega
      · have HS5 := Lib.hid (show (r1, r2) = Dm.putAll n L d by have := HSUM.out; rwa [if_neg hz] at this)
        have hne : (r2 != 0) = true := by simpa using hz
        clear hz
        go_wp2_with fail
        go_ret
        rw [← HS5.out]
        exact ⟨rfl, HD4.out, HK4.out⟩
    · have HS5 := Lib.hid (show d'.flushS = Dm.putAll n L d by
        have := HS.out
        rw [List.drop_of_length_le (by have := HLL.out; omega)] at this
        exact this)
      go_wp2_with fail
      refine (flush_any HD.out).mono ?_
      rintro e w3 ⟨rfl, hd, hk⟩
      have D3 := Lib.hid hd
      have K3 := Lib.hid (HK.out.trans hk)
      clear hd hk
      go_wp2_with fail
      go_ret
      rw [← HS5.out]
      exact ⟨rfl, D3.out, K3.out⟩
end
end Go.Proofs.YtfcljcikajaedaaDoor
