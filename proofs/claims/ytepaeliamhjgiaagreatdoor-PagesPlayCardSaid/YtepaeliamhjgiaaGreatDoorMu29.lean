/- The law of pages, part 29 of 55: PgWrite PgText PgOf. -/
import Derived.Test.YtepaeliamhjgiaaGreatDoorMu1
import Derived.Test.YtepaeliamhjgiaaGreatDoorMu28
import Derived.Test.YtepaeliamhjgiaaGreatDoorMu5
import Derived.Test.YtepaeliamhjgiaaGreatDoorMu15
import Derived.Test.YtepaeliamhjgiaaGreatDoorMu10
set_option maxHeartbeats 16000000
set_option maxRecDepth 100000
namespace Go.Proofs.YtepaeliamhjgiaaGreatDoor
open Go.RowKit Go.Maps
theorem putPg_step (o : Nat) (m : Bm) (i : Nat) (r : List Nat) (d : Dm) : Dm.putPg o m (i :: r) d = if (d.writeS ((o + i : Nat) : Int) (m.at_ i)).2 = 0 then Dm.putPg o m r (d.writeS ((o + i : Nat) : Int) (m.at_ i)).1 else d.writeS ((o + i : Nat) : Int) (m.at_ i) := by
 rfl
theorem pwrite_any {F : Nat -> Prop} {w : World} {b g n : Nat} {m : Bm} {d : Dm} (hF : ∀ k, w.heap.size <= k -> F k) (hm : Pgm w g n m) (hg : ¬ F g) (hD : Dsk F w b d) (L : Nat) (hL : L <= 100000) (hw : d.wait.length + 2000 < 1073741824) :
  Calls Tryz.prog 56 #[.map (some g), .pointer (some ⟨b, 0, none⟩), .int .i64 L] w fun e w' => e = .returned (.int .i64 (Dm.putPg (2 + L) m (m.keys n) d).2) /\ Dsk F w' b (Dm.putPg (2 + L) m (m.keys n) d).1 /\ Kp F w w' := by
 have HF := hHd hF
 have HM := hHd hm
 have HG := hHd hg
 have DD := hHd hD
 have HL := hHd hL
 have HWT := hHd hw
 have HN := hHd hm.2.1
 have HO := hHd hm.1
 obtain ⟨ks, hks⟩ : ∃ ks, m.keys n = ks := ⟨_, rfl⟩
 have HKS := hHd hks
 have hkl : (ks.length : Int) <= 1024 := by have h1 := keys_le m n; have h2 := hm.2.1; rw [hks] at h1; omega
 clear hF hg hD hL hw
 rw [hks]
 go_enter Tryz.func56, Tryz.ntmps56
 go_wp2_with fail
 refine (rising_any HM.out).mono ?_
 rintro e w1 ⟨v, rfl, hrow, hk⟩
 rw [hks] at hrow
 clear hks hm
 have RR := hHd (RdR.of_own hrow)
 obtain ⟨Av, cv, rfl⟩ := own_shape3 hrow
 have D1 := hHd (DD.out.still hk)
 have M1 := hHd (HM.out.still hk)
 have K1 := hHd (hk.of_false (S := F))
 clear hrow hk
 go_wp2_with fail
 go_loopw [14] (fun s14 wr => ∃ (k : Nat) (d1 : Dm), k <= ks.length /\ s14 = .int .i64 k /\ Dsk F wr b d1 /\ Kp F w1 wr /\ RdR wr 3 1 (.slice Av ks.length cv) ks.length (ks.map fun i : Nat => .int .i64 (i : Int)) /\ Dm.putPg (2 + L) m ks d = Dm.putPg (2 + L) m (ks.drop k) d1 /\ d1.wait.length <= d.wait.length + k) (fun s14 _ => ks.length - (Go.RowKit.intOf s14).toNat)
 case atStart => exact ⟨0, d, Nat.zero_le _, rfl, D1.out, Kp.refl _ w1, RR.out, rfl, Nat.le_refl _⟩
 case round =>
  obtain ⟨k, d1, hk, rfl, hd, hkp, hrr, heq, hwt⟩ := hrel
  have D2 := hHd hd
  have K2 := hHd hkp
  have HEQ := hHd heq
  have HWT1 := hHd hwt
  have RW := hHd hrr
  have MW := hHd (M1.out.kp hkp HG.out)
  clear hd hkp hrr heq hwt
  by_cases hlt : k < ks.length
  ·obtain ⟨i, hi⟩ : ∃ i, ks[k]? = some i := ⟨_, List.getElem?_eq_getElem hlt⟩
   have him : i ∈ m.keys n := by rw [HKS.out]; exact List.mem_of_getElem? hi
   obtain ⟨p, hp, hpa⟩ := keys_at him
   have hin := (keys_long HO.out him).1
   have hpl := HO.out.long i p hp
   have hi63 : i < 9223372036854775808 := by have := HN.out; omega
   have hi5 : i <= 100000 := by have := HN.out; omega
   obtain ⟨bv, cv', hvg, _, hcell⟩ := RW.out.cell (show 0 < ks.length by omega)
   injection hvg with hA hB0 hC
   clear hB0
   subst hA
   subst hC
   have y := hcell k (.int .i64 (i : Int)) (by rw [List.getElem?_map, hi]; rfl)
   have HP := hHd hp
   have HPL := hHd hpl
   have hdr : ks.drop k = i :: ks.drop (k + 1) := by
    rw [List.drop_eq_getElem_cons hlt]
    congr 1
    have := List.getElem?_eq_getElem hlt
    rw [hi] at this
    injection this with this
    exact this.symm
   have HDR := hHd hdr
   have HI6 := hHd hi63
   have HI5 := hHd hi5
   have HPA := hHd hpa
   clear hcell hi him hp hpa hin hpl hdr hi63 hi5
   go_upto_region 5 with (first | (refine wpList_getPg rfl (.tmp 18) (.tmp 19) rfl rfl MW.out i HI6.out rfl p HP.out ?_; intro hpl2; clear hpl2) | (refine wpList_store_box rfl 107 (.tmp 9) (.tmp 20) rfl wr.heap.size (bcs p) rfl rfl (Box.new wr 107 Tryz.zeroCells107) (by rw [bcs_length, HPL.out]; kernel_rfl) (by rw [bcs_length, HPL.out]; exact infoPg) (bcs_one p) ?_; intro w3 hb3 hk3) | fail)
   -- REGION5
   have k3 : Kp (fun _ => False) wr w3 := ((Kp.refl (fun _ => False) wr).alloc (.cells Tryz.zeroCells107 107)).trans_new hk3 (fun q e => .inl (by omega))
   obtain ⟨gx, hgx⟩ : ∃ gx, wr.heap.size = gx := ⟨_, rfl⟩
   rw [hgx] at hb3 ⊢
   have D3 := hHd (D2.out.still k3.drew)
   have M3 := hHd (MW.out.still k3.drew)
   have R3 := hHd (RW.out.kp k3.drew (fun _ _ _ _ e => e))
   have K3 := hHd (K2.out.trans k3.drew.of_false)
   have hdr3 : w3.drew.heap.size = w3.heap.size := rfl
   have hb3' : Box w3.drew gx 107 (bcs p).toArray := hb3
   have hsz : w.heap.size <= w3.drew.heap.size := Nat.le_trans K1.out.size (K2.out.trans k3.drew.of_false).size
   have hwr := write_any (F := fun k => F k /\ DT w3.drew k) (w := w3.drew) (newG HF.out hsz) D3.out.bothG ((2 + L + i : Nat) : Int) (some ⟨gx, 0, none⟩) p 512 (.inr ⟨gx, 0, rfl, fun j u hj => by rw [hb3'.cell, Nat.zero_add]; simp [bcs_get, hj]⟩) (fun ad e cs fr h4 => by
    injection e with e
    subst e
    have h5 : w3.drew.heap[gx]? = some (.cells (bcs p).toArray 107 (0, 0)) := hb3'
    rw [h5] at h4
    injection h4 with h4
    injection h4 with _ h4
    exact absurd h4 (by decide)) (by have := HWT.out; have := HWT1.out; have := hlt; omega)
   rw [HPL.out] at hwr
   have hst := putPg_step (2 + L) m i (ks.drop (k + 1)) d1
   rw [HPA.out] at hst
   obtain ⟨z1, hz1⟩ : ∃ z1, d1.writeS ((2 + L + i : Nat) : Int) p = z1 := ⟨_, rfl⟩
   have hwt2 : z1.1.wait.length <= d1.wait.length + 1 := by rw [<- hz1]; exact wait_writeS d1 _ p
   rw [hz1] at hwr hst
   obtain ⟨d2, ec⟩ := z1
   dsimp only at hwr hst hwt2
   have HWR := hHd hwr
   have HST := hHd hst
   have HWT2 := hHd hwt2
   have HZ := hHd hgx
   clear k3 hk3 hb3 hb3' hdr3 hsz hwr hst hz1 hwt2 hgx y
   try simp only [Act.put]
   refine wp_region_held_drew (S := fun _ => True) (by kernel_rfl) (trivial) (fun hHeld => ?_)
   refine tk 0 (h := ?_)
   refine tk 1 (h := ?_)
   refine tk 2 (h := ?_)
   refine tk 4 (h := ?_)
   refine rd 3 (h := fun K hK => ?_)
   go_simp
   refine (psector_any L i HL.out HI5.out _).mono ?_
   rintro e w4 ⟨rfl, rfl⟩
   go_wp2_with fail
   refine hK.out _ _ (trivial) (fun hHeld1 => ?_)
   clear hK K
   try simp only [Act.put, sIa, sI0, sI1]
   refine rd 5 (h := fun K hK => ?_)
   go_simp
   refine (HWR.out).mono ?_
   rintro e w4 ⟨rfl, hd4, hk4⟩
   have D4 := hHd hd4
   have K4 := hHd hk4
   clear hd4 hk4
   go_wp2_with fail
   refine hK.out _ _ (trivial) (fun hHeld2 => ?_)
   clear hK K
   try simp only [Act.put, sIa, sI0, sI1]
   refine tk 6 (h := ?_)
   refine wpAnyH_done (by kernel_rfl) ?_ _
   have D5 := hHd (D4.out.mono (F' := F) fun q e => e.1)
   have K5 := hHd (K3.out.trans (K4.out.mono fun q _ e => e.1))
   have M5 := hHd (M3.out.kp K4.out (fun e => HG.out e.1))
   have R5 := hHd (R3.out.kp K4.out (fun q cs fr e e2 => not_DT e ⟨by decide, by decide, by decide⟩ e2.2))
   by_cases he : ec = 0
   ·subst he
    go_wp2_with fail
    go_roundw
    case rel =>
     refine ⟨k + 1, d2, by omega, by go_num, D5.out, K5.out, R5.out, ?_, by have := HWT1.out; have := HWT2.out; omega⟩
     rw [HEQ.out, HDR.out, HST.out]
     rfl
    case measure => simp [Go.RowKit.intOf]; omega
   ·have hne : (ec != 0) = true := by simpa using he
    clear he
    go_wp2_with fail
    go_ret
    have e2 : Dm.putPg (2 + L) m ks d = (d2, ec) := by
     rw [HEQ.out, HDR.out, HST.out]
     show (if ec = 0 then _ else _) = _
     rw [if_neg (by simpa using hne)]
    rw [e2]
    exact ⟨rfl, D5.out, K1.out.trans K5.out⟩
  ·obtain rfl : k = ks.length := by omega
   go_wp2_with fail
   go_ret
   have e2 : Dm.putPg (2 + L) m ks d = (d1, 0) := by
    rw [HEQ.out, List.drop_length]
    rfl
   rw [e2]
   exact ⟨rfl, D2.out, K1.out.trans K2.out⟩
theorem Pkr.mono {F F' : Nat → Prop} {w : World} {b : Nat} {l : List UInt8} {err : Int} (h : Pkr F w b l err) (hF : ∀ k, F k → F' k) : Pkr F' w b l err := by
  obtain ⟨h1, v, h2, h3, h4⟩ := h
  exact ⟨hF _ h1, v, h2, h3, fun k e => hF _ (h4 k e)⟩
theorem Pkr.old {F : Nat → Prop} {w : World} {b : Nat} {l : List UInt8} {err : Int} (h : Pkr F w b l err) : Pkr (fun k => F k ∧ k < w.heap.size) w b l err := by
  obtain ⟨h1, v, h2, h3, h4⟩ := h
  exact ⟨⟨h1, h2.lt⟩, v, h2, h3, fun k e => ⟨h4 k e, (h3.lt k e).2⟩⟩
theorem Pk.old {F F' : Nat → Prop} {w : World} {p : Value} {l : List UInt8} {err : Int} (h : Pk F w p l err) (hF : ∀ k, F k → k < w.heap.size → F' k) : Pk F' w p l err := by
  obtain ⟨h0, h | ⟨b, e, h⟩⟩ := h
  · exact ⟨h0, .inl h⟩
  · exact ⟨h0, .inr ⟨b, e, h.old.mono fun k hk => hF k hk.1 hk.2⟩⟩
theorem RdR.kpb {S : Nat → Prop} {w w' : World} {t : TypeId} {size n c : Nat} {A : Option Addr} {xs : List Value} (h : RdR w t size (.slice A n c) n xs) (hk : Kp S w w') (hn : ∀ b, A = some ⟨b, 0, none⟩ → ¬ S b) : RdR w' t size (.slice A n c) n xs := by
  obtain ⟨h1, A', cap, hv, hc, h2⟩ := h
  injection hv with hA _ hC
  subst hA hC
  refine ⟨h1, A, c, rfl, hc, ?_⟩
  rcases h2 with h2 | ⟨b, cur, hA, hb, hx⟩
  · exact .inl h2
  · exact .inr ⟨b, cur, hA, hb.kp hk (hn b hA), hx⟩
theorem pgTx_snoc (m : Bm) (l : List Nat) (i : Nat) : pgTx m (l ++ [i]) = pgTx m l ++ beN 2 i ++ m.at_ i := by
  simp [pgTx, List.append_assoc]
theorem ptext_any {w : World} {g n : Nat} {m : Bm} (hm : Pgm w g n m) :
    Calls Tryz.prog 72 #[.map (some g)] w fun e w' => e = .returned (.string ⟨(m.text n).toArray⟩) ∧ Kp (fun _ => False) w w' := by
  have HM := Lib.hid hm
  have HN := Lib.hid hm.2.1
  have HO := Lib.hid hm.1
  obtain ⟨ks, hks⟩ : ∃ ks, m.keys n = ks := ⟨_, rfl⟩
  have htx : m.text n = pgTx m ks := by rw [← hks]; rfl
  have HKS := Lib.hid hks
  have hkl : (ks.length : Int) ≤ 1024 := by have h1 := keys_le m n; have h2 := hm.2.1; rw [hks] at h1; omega
  rw [htx]
  clear hm htx
  go_enter Tryz.func72, Tryz.ntmps72
  go_wp2_with fail
  refine (new_any (fun k => k = w.heap.size) w rfl).mono ?_
  rintro e w1 ⟨rfl, hpk, hk1⟩
  have P1 := Lib.hid hpk
  have K1 := Lib.hid hk1
  have M1 := Lib.hid (HM.out.still hk1)
  clear hpk hk1
  go_wp2_with fail
  refine (rising_any M1.out).mono ?_
  rintro e w2 ⟨v, rfl, hrow, hk⟩
  rw [hks] at hrow
  clear hks
  have RR := Lib.hid (RdR.of_own hrow)
  obtain ⟨Fp, hFp⟩ : ∃ Fp : Nat → Prop, Fp = fun k => w.heap.size ≤ k ∧ v.ownBlock ≠ some k := ⟨_, rfl⟩
  have hown := hrow
  have hlt1 := P1.out.2
  have hF2 : ∀ k, w2.heap.size ≤ k → Fp k := fun k hk2 => by
    rw [hFp]
    refine ⟨Nat.le_trans (Nat.le_trans K1.out.size hk.size) hk2, fun e => ?_⟩
    have := (hown.lt k e).2
    omega
  have P2 := Lib.hid (show Pk Fp w2 (.pointer (some ⟨w.heap.size, 0, none⟩)) (pgTx m (ks.take 0)) 0 from ⟨fun h => absurd rfl h, .inr ⟨w.heap.size, rfl, (P1.out.kp hk (fun _ _ e => e)).mono (fun k e => by
    rw [hFp]
    refine ⟨by rw [show k = w.heap.size from e]; exact Nat.le_refl _, fun e2 => ?_⟩
    have h1 := (hown.lt k e2).1
    obtain ⟨_, hbx, _⟩ := P1.out.2
    have h2 := hbx.lt
    have : k = w.heap.size := e
    omega)⟩⟩)
  have HR := Lib.hid (show ∀ k cs fr, w2.heap[k]? = some (.cells cs 3 fr) → v.ownBlock = some k → ¬ Fp k from fun k _ _ _ e => by rw [hFp]; exact fun h => h.2 e)
  have HFP := Lib.hid (show ∀ k, Fp k → w.heap.size ≤ k from fun k h => by rw [hFp] at h; exact h.1)
  have HGL := Lib.hid M1.out.lt
  obtain ⟨Av, cv, rfl⟩ := own_shape3 hrow
  have HAV := Lib.hid (show ∀ b o, Av = some ⟨b, o, none⟩ → ¬ Fp b from fun b o e => by
    rw [hFp]
    rintro ⟨_, h⟩
    rcases hown.2 with ⟨h2, _⟩ | ⟨g', cap, cur, h2, _⟩
    · injection h2 with h2; rw [e] at h2; cases h2
    · injection h2 with h2; rw [e] at h2; injection h2 with h2; injection h2 with h2; subst h2; exact h (by rw [e]; rfl))
  have K2 := Lib.hid (K1.out.trans hk)
  have M2 := Lib.hid (M1.out.still hk)
  have HF2 := Lib.hid hF2
  clear hrow hk hown hlt1 hF2 hFp P1 K1
  go_wp2_with fail
  go_loopw [13] (fun s13 wr => ∃ k : Nat, k ≤ ks.length ∧ s13 = .int .i64 k ∧ Pk Fp wr (.pointer (some ⟨w.heap.size, 0, none⟩)) (pgTx m (ks.take k)) 0 ∧ Kp (fun k => w.heap.size ≤ k) w2 wr ∧ RdR wr 3 1 (.slice Av ks.length cv) ks.length (ks.map fun i : Nat => .int .i64 (i : Int))) (fun s13 _ => ks.length - (Go.RowKit.intOf s13).toNat)
  case atStart => exact ⟨0, Nat.zero_le _, rfl, P2.out, Kp.refl _ w2, RR.out⟩
  case round =>
    obtain ⟨k, hk, rfl, hpk, hkp, hrr⟩ := hrel
    have PW := Lib.hid hpk
    have KW := Lib.hid hkp
    have RW := Lib.hid hrr
    have MW := Lib.hid (HM.out.kp ((K2.out.of_false (S := fun k => w.heap.size ≤ k)).trans hkp) (fun e => by have := HM.out.lt; omega))
    clear hpk hkp hrr
    by_cases hlt : k < ks.length
    · obtain ⟨i, hi⟩ : ∃ i, ks[k]? = some i := ⟨_, List.getElem?_eq_getElem hlt⟩
      have him : i ∈ m.keys n := by rw [HKS.out]; exact List.mem_of_getElem? hi
      obtain ⟨p, hp, hpa⟩ := keys_at him
      have hin := (keys_long HO.out him).1
      have hpl := HO.out.long i p hp
      have hi63 : i < 9223372036854775808 := by have := HN.out; omega
      have hi16 : i < 65536 := by have := HN.out; omega
      have hw64 : IntKind.u64.wrap (i : Int) = (i : Int) := IntWalk.u64_in _ (by omega)
      have hlong : ∀ j ∈ ks.take k, (m.at_ j).length = 512 := fun j hj => (keys_long HO.out (by rw [HKS.out]; exact List.mem_of_mem_take hj)).2
      have htl : (pgTx m (ks.take k)).length ≤ 600000 := by
        rw [pgTx_length hlong, List.length_take]
        omega
      obtain ⟨bv, cv', hvg, _, hcell⟩ := RW.out.cell (show 0 < ks.length by omega)
      injection hvg with hA hB0 hC
      clear hB0
      subst hA
      subst hC
      have y := hcell k (.int .i64 (i : Int)) (by rw [List.getElem?_map, hi]; rfl)
      have hsnoc : pgTx m (ks.take (k + 1)) = pgTx m (ks.take k) ++ beN 2 i ++ p := by
        rw [List.take_add_one, hi]
        show pgTx m (ks.take k ++ [i]) = _
        rw [pgTx_snoc, hpa]
      have HP := Lib.hid hp
      have HPL := Lib.hid hpl
      have HI6 := Lib.hid hi63
      have HI16 := Lib.hid hi16
      have HTL := Lib.hid htl
      have HSN := Lib.hid hsnoc
      clear hcell hi him hp hpa hin hpl hi63 hi16 hlong htl hsnoc
      go_upto_region 6 with (first | (refine wpList_getPg rfl (.tmp 17) (.tmp 18) rfl rfl MW.out i HI6.out rfl p HP.out ?_; intro hpl2; clear hpl2) | (refine wpList_store_box rfl 107 (.tmp 6) (.tmp 19) rfl wr.heap.size (bcs p) rfl rfl (Box.new wr 107 Tryz.zeroCells107) (by rw [bcs_length, HPL.out]; kernel_rfl) (by rw [bcs_length, HPL.out]; exact infoPg) (bcs_one p) ?_; intro w3 hb3 hk3) | fail)
      have k3 : Kp (fun _ => False) wr w3 := ((Kp.refl (fun _ => False) wr).alloc (.cells Tryz.zeroCells107 107)).trans_new hk3 (fun q e => .inl (by omega))
      obtain ⟨gx, hgx⟩ : ∃ gx, wr.heap.size = gx := ⟨_, rfl⟩
      rw [hgx] at hb3 ⊢
      have P3 := Lib.hid ((PW.out.old (F' := fun k => Fp k ∧ k ≠ gx) fun k h1 h2 => ⟨h1, by omega⟩).still k3.drew)
      have R3 := Lib.hid (RW.out.kp k3.drew (fun _ _ _ _ e => e))
      have K3 := Lib.hid (KW.out.trans k3.drew.of_false)
      have hF3 : ∀ k, w3.drew.heap.size ≤ k → Fp k ∧ k ≠ gx := fun q hq => ⟨HF2.out q (Nat.le_trans K3.out.size hq), by have h1 := hb3.lt; have h2 : w3.drew.heap.size = w3.heap.size := rfl; omega⟩
      have hb3' : Box w3.drew gx 107 (bcs p).toArray := hb3
      have HZ := Lib.hid hgx
      clear k3 hk3 hb3 hgx y
      try simp only [Act.put]
      refine wp_region_held_drew (S := fun v => Box v gx 107 (bcs p).toArray) (by kernel_rfl) (hb3') (fun hHeld => ?_)
      refine tk 0 (h := ?_)
      refine tk 1 (h := ?_)
      refine tk 2 (h := ?_)
      refine tk 4 (h := ?_)
      refine tk 5 (v := ?_) (hy := ?_) (h := ?_)
      rotate_left
      · intro v hSw
        have ht := Rd.text (P := Tryz.prog) (w := v) (A := some ⟨gx, 0, none⟩) (l := p) (.inr ⟨gx, 0, rfl, fun j u hj => by rw [Box.cell hSw, Nat.zero_add]; simp [bcs_get, hj]⟩) 50 9 5 512 Tryz.underlying50 Tryz.underlying5 Tryz.underlying9
        rw [HPL.out] at ht
        go_simp
        with_reducible rfl
      refine rd 3 (h := fun K hK => ?_)
      go_simp
      refine (put_fine2 P3.out hF3 i HI16.out (by have := HTL.out; omega)).mono ?_
      rintro e w4 ⟨rfl, hp4, hk4⟩
      have P4 := Lib.hid hp4
      have K4 := Lib.hid hk4
      have B4 := Lib.hid (hb3'.kp hk4 (fun e => e.2 rfl))
      have hF4 : ∀ k, w4.heap.size ≤ k → Fp k ∧ k ≠ gx := fun q hq => hF3 q (Nat.le_trans hk4.size hq)
      clear hp4 hk4
      go_wp2_with fail
      refine hK.out _ _ (B4.out) (fun hHeld1 => ?_)
      clear hK K
      try simp only [Act.put, List.setIfInBounds_toArray, List.set_cons_zero, List.set_cons_succ]
      refine rd 6 (h := fun K hK => ?_)
      go_simp
      refine (text_any P4.out hF4 ⟨p.toArray⟩ (by have := HTL.out; have h1 := putS_le (pgTx m (ks.take k)) 0 (beN 2 i); rw [beN_length] at h1; have : (⟨p.toArray⟩ : ByteArray).size = 512 := by show p.toArray.size = 512; simpa using HPL.out
                                                  omega)).mono ?_
      rintro e w5 ⟨rfl, hp5, hk5⟩
      have P5 := Lib.hid hp5
      have K5 := Lib.hid hk5
      have B5 := Lib.hid (B4.out.kp hk5 (fun e => e.2 rfl))
      clear hp5 hk5
      go_wp2_with fail
      refine hK.out _ _ (B5.out) (fun hHeld2 => ?_)
      clear hK K
      try simp only [Act.put, List.setIfInBounds_toArray, List.set_cons_zero, List.set_cons_succ]
      refine wpAnyH_done (by kernel_rfl) ?_ _
      have P6 := Lib.hid (P5.out.old (F' := Fp) fun k h1 _ => h1.1)
      have K6 := Lib.hid ((K3.out.trans (K4.out.mono (S' := fun k => w.heap.size ≤ k) fun q _ e => HFP.out q e.1)).trans (K5.out.mono fun q _ e => HFP.out q e.1))
      have R6 := Lib.hid ((R3.out.kpb K4.out (fun b e e2 => HAV.out b 0 e e2.1)).kpb K5.out (fun b e e2 => HAV.out b 0 e e2.1))
      clear hb3' hF3 hF4
      go_wp2_with fail
      go_roundw
      case rel =>
        refine ⟨k + 1, by omega, by go_num, ?_, K6.out, R6.out⟩
        rw [HSN.out]
        exact P6.out
      case measure => simp [Go.RowKit.intOf]; omega
    · obtain rfl : k = ks.length := by omega
      have htl : (pgTx m ks).length ≤ 140737488355328 := by
        rw [pgTx_length fun j hj => (keys_long HO.out (by rw [HKS.out]; exact hj)).2]
        omega
      have P6 := Lib.hid PW.out
      rw [List.take_length] at P6
      clear hk hkl
      go_wp2_with fail
      refine (bytes_any P6.out htl).mono ?_
      rintro e w5 ⟨A5, c5, rfl, _, _, hrd, _, hk5⟩
      have ht := hrd.text (P := Tryz.prog) 50 9 5 c5 Tryz.underlying50 Tryz.underlying5 Tryz.underlying9
      have K5 := Lib.hid ((K2.out.of_false (S := fun k => w.heap.size ≤ k)).trans (KW.out.trans hk5.of_false))
      clear hrd hk5
      go_wp2_with fail
      go_ret
      exact ⟨rfl, ⟨K5.out.os, K5.out.tape, K5.out.output, K5.out.size, fun k hk _ => K5.out.block k hk (by omega)⟩⟩
def Bm.only (m : Bm) (ks : List Nat) : Bm := fun k => if k ∈ ks then m k else none
theorem only_nil (m : Bm) : m.only [] = bnone := by funext k; simp [Bm.only, bnone]
theorem only_all (m : Bm) (n : Nat) (h : m.Ok n) : m.only (m.keys n) = m := by
 funext k
 unfold Bm.only
 by_cases hk : k ∈ m.keys n
 ·rw [if_pos hk]
 ·rw [if_neg hk]
  cases e : m k with
  |none => rfl
  |some p => exact absurd ((mem_keys k).2 ⟨h.in_ k p e, by rw [e]; rfl⟩) hk
theorem only_snoc (m : Bm) (ks : List Nat) (i : Nat) (p : List UInt8) (h : m i = some p) : (m.only ks).put i p = m.only (ks ++ [i]) := by
 funext k
 unfold Bm.put Bm.only
 by_cases e : k = i
 ·subst e
  simp [h]
 ·simp [e]
theorem pgTx_cons (m : Bm) (i : Nat) (r : List Nat) : pgTx m (i :: r) = beN 2 i ++ (m.at_ i ++ pgTx m r) := by simp [pgTx]
theorem batchOf_any (n : Nat) (hn : n <= 1024) (m : Bm) (hm : m.Ok n) (w : World) :
  Calls Tryz.prog 95 #[.string ⟨(m.text n).toArray⟩, .int .i64 n] w fun e w' => ∃ g, e = .returned (.tuple #[.map (some g), .bool true]) /\ w.heap.size <= g /\ Pgm w' g n m /\ Kp (fun _ => False) w w' := by
 obtain ⟨ks, hks⟩ : ∃ ks, m.keys n = ks := ⟨_, rfl⟩
 have htx : m.text n = pgTx m ks := by rw [<- hks]; rfl
 have HKS := hHd hks
 have HO := hHd hm
 have HN := hHd hn
 have hkl : (ks.length : Int) <= 1024 := by have h1 := keys_le m n; rw [hks] at h1; omega
 have htl : (pgTx m ks).length <= 140737488355328 := by
  rw [pgTx_length fun j hj => (keys_long hm (by rw [hks]; exact hj)).2]
  omega
 have HTL := hHd htl
 obtain ⟨tx, htx2⟩ : ∃ tx, pgTx m ks = tx := ⟨_, rfl⟩
 rw [htx, htx2]
 have HTX := hHd htx
 have HTX2 := hHd htx2
 clear hm hn hks htl htx htx2
 obtain ⟨w0, hw0, hp0, hk0⟩ : ∃ w0, w0 = w.alloc (.map #[] 0) /\ Pgm w0 w.heap.size n bnone /\ Kp (fun _ => False) w w0 := ⟨_, rfl, Pgm.made w HN.out, (Kp.refl _ w).alloc _⟩
 have HW0 := hHd hw0
 have M0 := hHd hp0
 have K0 := hHd hk0
 clear hw0 hp0 hk0
 have hmm := @run_makeMap Tryz.prog
 go_enter Tryz.func95, Tryz.ntmps95
 go_upto_region 2 with fail
 rw [<- HW0.out]
 clear hmm
 have hbs := run_bytes_of_string (P := Tryz.prog) w0 9 50 5 ⟨tx.toArray⟩ Tryz.underlying9 Tryz.underlying50 Tryz.underlying5
 generalize hcap : grownCap w0 (ByteArray.size ⟨tx.toArray⟩) 0 5 = cap at hbs
 clear hcap
 generalize hrow : (bytesRow ⟨tx.toArray⟩ cap).size = rs at hbs
 clear hrow
 go_wp2_with fail
 obtain ⟨w1, hw1, hk1, hrd1⟩ : ∃ w1, w1 = (w0.alloc (.cells (bytesRow ⟨tx.toArray⟩ cap) 5 (rs, rs + 1))).drew /\ Kp (fun _ => False) w0 w1 /\ Rd w1 (some ⟨w0.heap.size, 0, none⟩) tx := ⟨_, rfl, ((Kp.refl _ w0).alloc _).drew, rd_text w0 ⟨tx.toArray⟩ cap _ _⟩
 rw [<- hw1]
 have M1 := hHd (M0.out.still hk1)
 have K1 := hHd (K0.out.trans hk1)
 obtain ⟨G, hG⟩ : ∃ G : Nat -> Prop, G = fun k => w1.heap.size <= k := ⟨_, rfl⟩
 have HG := hHd (show ∀ k, w1.heap.size <= k -> G k from fun k h => by rw [hG]; exact h)
 have HGM := hHd (show ¬ G w.heap.size from by rw [hG]; have := M1.out.lt; omega)
 have HTL1 : tx.length <= 140737488355328 := by rw [<- HTX2.out]; exact HTL.out
 have HOF := hHd (of_any G w1 HG.out (some ⟨w0.heap.size, 0, none⟩) tx.length cap tx rfl hrd1 HTL1)
 clear hw1 hk1 hrd1 hG hbs HTL1
 refine HOF.out.mono ?_
 rintro e w2 ⟨b, rfl, hb, hop, hk⟩
 have O2 := hHd hop
 have M2 := hHd (M1.out.still hk)
 have K2 := hHd (K1.out.trans hk)
 have HB := hHd (show b ≠ w.heap.size from by have := M1.out.lt; omega)
 have HBW := hHd (show w.heap.size <= b from Nat.le_trans K1.out.size hb)
 clear hop hk HOF hb
 go_wp2_with fail
 go_loopg [8] ks.length (fun gh s8 wr => ∃ k : Nat, k + gh = ks.length /\ Opn G wr b (pgTx m (ks.drop k)) none /\ Pgm wr w.heap.size n (m.only (ks.take k)) /\ Kp (fun q => w.heap.size <= q) w wr)
 case atStart => exact ⟨0, by omega, by rw [List.drop_zero, HTX2.out]; exact O2.out, by rw [List.take_zero, only_nil]; exact M2.out, K2.out.of_false⟩
 case round =>
  obtain ⟨k, hkg, hop, hpm, hkp⟩ := hrel
  rename World => wr
  have OW := hHd hop
  have MW := hHd hpm
  have KW := hHd hkp
  have HKG := hHd hkg
  clear hop hpm hkp hkg
  by_cases hlt : k < ks.length
  ·obtain ⟨i, hi⟩ : ∃ i, ks[k]? = some i := ⟨_, List.getElem?_eq_getElem hlt⟩
   have him : i ∈ m.keys n := by rw [HKS.out]; exact List.mem_of_getElem? hi
   obtain ⟨p, hp, hpa⟩ := keys_at him
   have hin := (keys_long HO.out him).1
   have hpl := HO.out.long i p hp
   have hdr : ks.drop k = i :: ks.drop (k + 1) := by
    rw [List.drop_eq_getElem_cons hlt]
    congr 1
    have := List.getElem?_eq_getElem hlt
    rw [hi] at this
    injection this with this
    exact this.symm
   have hsn : (m.only (ks.take k)).put i p = m.only (ks.take (k + 1)) := by
    rw [List.take_add_one, hi]
    exact only_snoc m _ i p hp
   obtain ⟨rest, hrest⟩ : ∃ rest, pgTx m (ks.drop (k + 1)) = rest := ⟨_, rfl⟩
   have htx : pgTx m (ks.drop k) = beN 2 i ++ (p ++ rest) := by rw [hdr, pgTx_cons, hpa, hrest]
   have O3 := hHd (htx ▸ OW.out)
   have hlen : (beN 2 i ++ (p ++ rest)).length = 514 + rest.length := by simp only [List.length_append, beN_length, hpl]; omega
   obtain ⟨z, hz⟩ : ∃ z, (beN 2 i ++ (p ++ rest)).length = z := ⟨_, rfl⟩
   have hz0 : 0 < z := by omega
   have hli := left_any O3.out
   rw [hz] at hli
   have HLI := hHd hli
   have HSN := hHd hsn
   have HRE := hHd hrest
   have HPL := hHd hpl
   have HIN := hHd hin
   have HLE := hHd hlen
   have HNW := hHd HN.out
   clear hi him hp hpa hin hpl hdr hsn htx hrest hli hlen hz OW
   go_wp2_with fail
   refine HLI.out.mono ?_
   rintro e w3 ⟨rfl, rfl⟩
   go_wp2_with fail
   refine (err_fine O3.out).mono ?_
   rintro e w3 ⟨rfl, ho, hk⟩
   have O4 := hHd ho
   have K4 := hHd (KW.out.trans (hk.mono (S' := fun q => w.heap.size <= q) fun q _ e => by rw [show q = b from e]; exact HBW.out))
   have M4 := hHd (MW.out.kp hk (fun e => HB.out (show w.heap.size = b from e).symm))
   clear ho hk
   go_wp2_with fail
   refine (take_fine O4.out 2 rfl (by rw [HLE.out]; omega)).mono ?_
   rw [List.take_left' (beN_length 2 i), List.drop_left' (beN_length 2 i), numN_beN 2 i (by have := HIN.out; have := HNW.out; omega)]
   rintro e w4 ⟨rfl, ho, hk⟩
   have O5 := hHd ho
   have K5 := hHd (K4.out.trans (hk.mono (S' := fun q => w.heap.size <= q) fun q _ e => by rw [show q = b from e]; exact HBW.out))
   have M5 := hHd (M4.out.kp hk (fun e => HB.out (show w.heap.size = b from e).symm))
   have hw64 : IntKind.i64.wrap (i : Int) = (i : Int) := IntWalk.i64_in _ (by have := HIN.out; have := HNW.out; omega)
   clear ho hk
   go_wp2_with fail
   refine (otext_fine O5.out 512 (by simp [HPL.out])).mono ?_
   rw [List.take_left' HPL.out, List.drop_left' HPL.out]
   rintro e w5 ⟨rfl, ho, hk⟩
   have O6 := hHd ho
   have K6 := hHd (K5.out.trans (hk.mono (S' := fun q => w.heap.size <= q) fun q _ e => by rw [show q = b from e]; exact HBW.out))
   have M6 := hHd (M5.out.kp hk (fun e => HB.out (show w.heap.size = b from e).symm))
   clear ho hk hw64
   go_wp2_with fail
   refine (err_fine O6.out).mono ?_
   rintro e w6 ⟨rfl, ho, hk⟩
   have O7 := hHd ho
   have K7 := hHd (K6.out.trans (hk.mono (S' := fun q => w.heap.size <= q) fun q _ e => by rw [show q = b from e]; exact HBW.out))
   have M7 := hHd (M6.out.kp hk (fun e => HB.out (show w.heap.size = b from e).symm))
   have hbs := run_bytes_of_string (P := Tryz.prog) w6 9 50 5 ⟨p.toArray⟩ Tryz.underlying9 Tryz.underlying50 Tryz.underlying5
   generalize hcap : grownCap w6 (ByteArray.size ⟨p.toArray⟩) 0 5 = cp at hbs
   clear hcap
   generalize hrow : (bytesRow ⟨p.toArray⟩ cp).size = rp at hbs
   clear hrow
   have hps : (ByteArray.size ⟨p.toArray⟩) = 512 := by show p.toArray.size = 512; simpa using HPL.out
   rw [hps] at hbs
   have hat : ∀ W, (Instr.arrayAt 107 (.slice (some ⟨w6.heap.size, 0, none⟩) 512 cp)).run Tryz.prog W = .ok (.pointer (some ⟨w6.heap.size, 0, none⟩)) W := fun W => run_arrayAt W 107 _ 512 _ 512 cp Tryz.underlying107 (Nat.le_refl _)
   have hin2 : i < n := HIN.out
   clear ho hk hps
   go_upto_region 6 with fail
   have hk7 : Kp (fun _ => False) w6 (w6.alloc (.cells (bytesRow ⟨p.toArray⟩ cp) 5 (rp, rp + 1))).drew := ((Kp.refl _ w6).alloc _).drew
   have hrd7 : Rd (w6.alloc (.cells (bytesRow ⟨p.toArray⟩ cp) 5 (rp, rp + 1))).drew (some ⟨w6.heap.size, 0, none⟩) p := rd_text w6 ⟨p.toArray⟩ cp _ _
   have hrg : (w6.alloc (.cells (bytesRow ⟨p.toArray⟩ cp) 5 (rp, rp + 1))).drew.rangeAt w6.heap.size 0 (bcs p) := by
    rcases hrd7 with h | ⟨b', o', h, hc⟩
    ·rw [h] at *; intro j v hj; simp [bcs] at hj
    ·injection h with h
     injection h with h1 h2
     subst h1 h2
     intro j v hj
     rw [bcs_get] at hj
     cases hpj : p[j]? with
     |none => rw [hpj] at hj; cases hj
     |some u => rw [hpj] at hj; injection hj with hj; rw [<- hj]; exact hc j u hpj
   have M8 := hHd (M7.out.still hk7)
   have O8 := hHd (O7.out.kp hk7 (fun _ _ e => e))
   have K8 := hHd (K7.out.trans hk7.of_false)
   clear hk7 hrd7
   have HRG := hHd hrg
   have HLT := hHd hlt
   clear hrg hlt
   go_wp2_with (first | (refine wpList_load_mid rfl 107 (.tmp 39) rfl w6.heap.size 0 rfl (bcs p) _ HRG.out Tryz.underlying107 rfl (by rw [bcs_length, HPL.out]; exact infoPg) ?_) | (refine wpList_putPg rfl (.tmp 35) (.tmp 36) (.tmp 40) rfl rfl M8.out i HIN.out p HPL.out rfl rfl ?_; intro w9 hm9 hk9) | fail)
   have M9 := hHd hm9
   have O9 := hHd (O8.out.kp hk9 (fun q hq e => HGM.out (by rw [<- show q = w.heap.size from e]; exact hq)))
   have K9 := hHd (K8.out.trans (hk9.mono (S' := fun q => w.heap.size <= q) fun q _ e => by rw [show q = w.heap.size from e]; exact Nat.le_refl _))
   clear hm9 hk9 hbs hat
   go_roundg (ks.length - (k + 1))
   case measure => have := HKG.out; have := HLT.out; omega
   case rel =>
    refine ⟨k + 1, by have := HKG.out; have := HLT.out; omega, ?_, ?_, K9.out⟩
    ·rw [HRE.out]; exact O9.out
    ·rw [<- HSN.out]; exact M9.out
  ·have hk2 : k = ks.length := by have := HKG.out; omega
   have hd0 : pgTx m (ks.drop k) = [] := by rw [hk2, List.drop_length]; rfl
   have ho0 : m.only (ks.take k) = m := by rw [hk2, List.take_length, <- HKS.out]; exact only_all m n HO.out
   have O3 := hHd (hd0 ▸ OW.out)
   have M3 := hHd (ho0 ▸ MW.out)
   have hte := ptext_any M3.out
   rw [HTX.out, HTX2.out] at hte
   have HTE := hHd hte
   clear hlt hk2 hd0 ho0 OW MW hte
   go_wp2_with fail
   refine (left_any O3.out).mono ?_
   rintro e w3 ⟨rfl, rfl⟩
   go_wp2_with fail
   refine HTE.out.mono ?_
   rintro e w4 ⟨rfl, hk⟩
   have M4 := hHd (M3.out.still hk)
   have K4 := hHd (KW.out.trans hk.of_false)
   clear hk
   go_wp2_with fail
   go_ret2
   exact ⟨w.heap.size, rfl, Nat.le_refl _, M4.out, ⟨K4.out.os, K4.out.tape, K4.out.output, K4.out.size, fun q hq _ => K4.out.block q hq (by omega)⟩⟩
end Go.Proofs.YtepaeliamhjgiaaGreatDoor
