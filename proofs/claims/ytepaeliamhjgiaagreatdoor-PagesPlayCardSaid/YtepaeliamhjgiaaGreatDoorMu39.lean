/- The law of pages, part 39 of 55: PgRA PgRB PgRC. -/
import Derived.Test.YtepaeliamhjgiaaGreatDoorMu1
import Derived.Test.YtepaeliamhjgiaaGreatDoorMu38
import Derived.Test.YtepaeliamhjgiaaGreatDoorMu27
import Derived.Test.YtepaeliamhjgiaaGreatDoorMu24
import Derived.Test.YtepaeliamhjgiaaGreatDoorMu29
import Derived.Test.YtepaeliamhjgiaaGreatDoorMu26
set_option maxHeartbeats 16000000
set_option maxRecDepth 100000
namespace Go.Proofs.YtepaeliamhjgiaaGreatDoor
open Go.RowKit Go.Maps
theorem infoRsa (a c g : Nat) (R : Rs) : (Tryz.prog.info? 39).map (·.size) = some (rsV a c g R).toArray.size := by kernel_rfl
section
variable {w : World} {a c g : Nat} {R : Rs}
theorem rneed_any (h : Rv w a c g R) :
  Calls Tryz.prog 37 #[.agg (rsV a c g R).toArray] w fun e w' => e = .returned (.int .i64 (((514 * (R.chg.keys R.pg.length).length + 496) / 497 : Nat) : Int)) /\ Kp (fun _ => False) w w' := by
 obtain ⟨W, hW, hb0, hkw⟩ := start_one w a c g R
 have hl := fun ty => (h.still hkw).ch.len ty
 have hle := keys_le R.chg R.pg.length
 have hfew := h.few
 obtain ⟨k, hk⟩ : ∃ k, (R.chg.keys R.pg.length).length = k := ⟨_, rfl⟩
 rw [hk] at hl hle ⊢
 have hk2 : k <= 1024 := Nat.le_trans hle hfew
 obtain ⟨z, hz⟩ : ∃ z, 514 * k = z := ⟨_, rfl⟩
 have e1 : IntKind.i64.wrap (514 * (k : Int)) = (z : Int) := by rw [IntWalk.i64_in _ (by omega)]; omega
 obtain ⟨y, hy⟩ : ∃ y, z + 496 = y := ⟨_, rfl⟩
 have e2 : IntKind.i64.wrap ((z : Int) + 496) = (y : Int) := by rw [IntWalk.i64_in _ (by omega)]; omega
 have e3 : ((y : Int)).tdiv 497 = ((y / 497 : Nat) : Int) := by rw [Int.tdiv_eq_ediv_of_nonneg (by omega)]; omega
 have e3' : ((y : Int)) / 497 = ((y / 497 : Nat) : Int) := by omega
 have e4 : IntKind.i64.wrap ((y / 497 : Nat) : Int) = ((y / 497 : Nat) : Int) := IntWalk.i64_in _ (by omega)
 have hyz : (514 * k + 496) / 497 = y / 497 := by omega
 rw [hyz]
 obtain ⟨q, hq⟩ : ∃ q, y / 497 = q := ⟨_, rfl⟩
 rw [hq] at e3 e3' e4 ⊢
 have y1 : W.cell? ⟨w.heap.size, 1, none⟩ = some (.map (some g)) := hb0.cell 1
 have HW := hHd hW
 have KW := hHd hkw
 clear h hb0 hkw hW hk hle hfew hk2 hz hy hyz hq
 go_enter Tryz.func37, Tryz.ntmps37
 go_upto_region 1 with fail
 rw [<- HW.out]
 go_wp2_with fail
 go_ret
 exact ⟨rfl, KW.out⟩
theorem rabort_any (h : Rv w a c g R) :
  Calls Tryz.prog 12 #[.agg (rsV a c g R).toArray] w fun e w' => ∃ g', e = .returned (.agg (rsV a c g' ⟨R.pg, bnone⟩).toArray) /\ Rv w' a c g' ⟨R.pg, bnone⟩ /\ w.heap.size <= g' /\ Kp (fun _ => False) w w' := by
 have hmm := @run_makeMap Tryz.prog
 have Hr : Hid (Tryz.f12.results = #[.cell 2 39]) := hHd (by kernel_rfl)
 obtain ⟨W, hW, hb0, hb1, hkw⟩ := start_two w a c g R
 have HW := hHd hW
 have KW := hHd hkw
 have HR := hHd (h.still hkw)
 have HLT := hHd h.lt
 have B1 := hHd hb1
 have y0 : W.cell? ⟨w.heap.size, 0, none⟩ = some (.slice (some ⟨a, 0, none⟩) R.pg.length c) := hb0.cell 0
 clear h hb0 hb1 hkw hW
 go_enter Tryz.func12, Tryz.ntmps12
 go_upto_region 1 with fail
 rw [<- HW.out]
 go_wp2_with (first | (refine dwpList_store_box rfl 39 (.tmp 2) (.tmp 6) rfl (w.heap.size + 1) (rsV a c W.heap.size ⟨R.pg, bnone⟩) rfl rfl (B1.out.alloc _) (by kernel_rfl) (infoRs _ _ _ _) (rsV_one _ _ _ _) ?_; intro w5 hb5 hk5) | fail)
 have k1 : Kp (fun _ => False) W (W.alloc (.map #[] 0)) := (Kp.refl _ W).alloc _
 obtain ⟨l1, l2⟩ := HLT.out
 have lw := KW.out.size
 have lb := B1.out.lt
 refine bodyPost_ret (v := .agg (rsV a c W.heap.size ⟨R.pg, bnone⟩).toArray) ?_ rfl ⟨_, rfl, ⟨?_, HR.out.cap, HR.out.any, HR.out.each, (Smp.made W HR.out.few).kp hk5 (fun e => by have e : W.heap.size = w.heap.size + 1 := e; omega)⟩, lw, (KW.out.trans k1).trans_new hk5 (fun k e => .inl (by omega))⟩
 ·exact results_cell_row Hr.out _ _ (w.heap.size + 1) 39 _ (0, 0) _ rfl hb5 Tryz.underlying39 rfl (infoRsa _ _ _ _)
 ·obtain ⟨cur, hb, hx⟩ := (HR.out.still k1).row
  exact ⟨cur, hb.kp hk5 (fun e => by have e : a = w.heap.size + 1 := e; omega), hx⟩
theorem rpage_no (h : Rv w a c g R) (i : Int) (hi : i < 0 \/ (R.pg.length : Int) <= i) :
  Calls Tryz.prog 39 #[.agg (rsV a c g R).toArray, .int .i64 i] w fun e w' => e = .returned (.tuple #[.string ⟨#[]⟩, .int .i64 2]) /\ Kp (fun _ => False) w w' := by
 obtain ⟨W, hW, hb0, hkw⟩ := start_one w a c g R
 have HW := hHd hW
 have KW := hHd hkw
 have y0 : W.cell? ⟨w.heap.size, 0, none⟩ = some (.slice (some ⟨a, 0, none⟩) R.pg.length c) := hb0.cell 0
 have hfew := h.few
 clear h hb0 hkw hW
 by_cases h0 : i < 0
 ·clear hi
  go_enter Tryz.func39, Tryz.ntmps39
  go_upto_region 1 with fail
  rw [<- HW.out]
  go_wp2_with fail
  go_ret2
  exact ⟨rfl, KW.out⟩
 ·have h1 : (R.pg.length : Int) <= i := hi.resolve_left h0
  clear hi
  go_enter Tryz.func39, Tryz.ntmps39
  go_upto_region 1 with fail
  rw [<- HW.out]
  go_wp2_with fail
  go_ret2
  exact ⟨rfl, KW.out⟩
theorem rpage_yes (h : Rv w a c g R) (i : Nat) (hi : i < R.pg.length) :
  Calls Tryz.prog 39 #[.agg (rsV a c g R).toArray, .int .i64 i] w fun e w' => e = .returned (.tuple #[.string ⟨(R.at_ i).toArray⟩, .int .i64 0]) /\ Kp (fun _ => False) w w' := by
 obtain ⟨W, hW, hb0, hkw⟩ := start_one w a c g R
 have HW := hHd hW
 have KW := hHd hkw
 have y0 : W.cell? ⟨w.heap.size, 0, none⟩ = some (.slice (some ⟨a, 0, none⟩) R.pg.length c) := hb0.cell 0
 have y1 : W.cell? ⟨w.heap.size, 1, none⟩ = some (.map (some g)) := hb0.cell 1
 have hfew := h.few
 have HR := hHd (h.still hkw)
 obtain ⟨p, hp⟩ : ∃ p, R.pg[i]? = some p := ⟨_, List.getElem?_eq_getElem hi⟩
 have y2 := HR.out.cell hp
 have HP := hHd hp
 have hi63 : i < 9223372036854775808 := by omega
 have HI := hHd hi63
 have h0 : ¬ (i : Int) < 0 := by omega
 have h1 : ¬ (R.pg.length : Int) <= (i : Int) := by omega
 clear h hb0 hkw hW hp hi63
 go_enter Tryz.func39, Tryz.ntmps39
 go_upto_region 1 with fail
 rw [<- HW.out]
 go_wp2_with (first | (refine wpList_lookSt rfl (.tmp 19) (.tmp 20) rfl rfl HR.out.ch i HI.out rfl ?_ ?_) | fail)
 ·intro hn t
  have HN := hHd hn
  clear hn
  go_wp2_with fail
  go_ret2
  unfold Rs.at_
  rw [HN.out, List.getD_eq_getElem?_getD, HP.out]
  exact ⟨rfl, KW.out⟩
 ·intro t ht
  have HN := hHd ht
  clear ht
  go_wp2_with fail
  go_ret2
  unfold Rs.at_
  rw [HN.out]
  exact ⟨rfl, KW.out⟩
end
def Bm.upto (m : Bm) (k : Nat) : Bm := fun i => if i < k then m i else none
theorem Bm.upto_zero (m : Bm) : m.upto 0 = bnone := by funext i; simp [Bm.upto, bnone]
theorem Bm.upto_none {m : Bm} {k : Nat} (h : m k = none) : m.upto (k + 1) = m.upto k := by
 funext i
 unfold Bm.upto
 by_cases e : i = k
 ·subst e
  rw [if_pos (by omega), if_neg (by omega), h]
 ·by_cases h1 : i < k
  ·rw [if_pos h1, if_pos (by omega)]
  ·rw [if_neg h1, if_neg (by omega)]
theorem Bm.upto_some {m : Bm} {k : Nat} {p : List UInt8} (h : m k = some p) : (m.upto k).put k p = m.upto (k + 1) := by
 funext i
 show (if i = k then some p else if i < k then m i else none) = if i < k + 1 then m i else none
 by_cases e : i = k
 ·subst e
  rw [if_pos rfl, if_pos (by omega), h]
 ·rw [if_neg e]
  by_cases h1 : i < k
  ·rw [if_pos h1, if_pos (by omega)]
  ·rw [if_neg h1, if_neg (by omega)]
theorem Bm.upto_all {m : Bm} {n : Nat} (h : m.Ok n) : m.upto n = m := by
 funext i
 unfold Bm.upto
 split
 ·rfl
 ·next e =>
  cases hm : m i with
  |none => rfl
  |some p => exact absurd (h.in_ i p hm) e
section
variable {w : World} {a c g : Nat} {R : Rs}
theorem rhas_any (h : Rv w a c g R) (k : Nat) (hk : k < R.pg.length) :
  Calls Tryz.prog 40 #[.agg (rsV a c g R).toArray, .int .i64 k] w fun e w' => e = .returned (.bool (Bt.bitL (R.at_ 0) k)) /\ Kp (fun _ => False) w w' := by
 obtain ⟨W, hW, hb0, hkw⟩ := start_one w a c g R
 have HW := hHd hW
 have KW := hHd hkw
 have hfew := h.few
 have hlen := h.at_len h.any
 have HR := hHd (h.still hkw)
 have HANY := hHd h.any
 have B0 := hHd hb0
 obtain ⟨s, hs⟩ : ∃ s : ByteArray, (⟨(R.at_ 0).toArray⟩ : ByteArray) = s := ⟨_, rfl⟩
 have hss : s.size = 512 := by rw [<- hs]; exact hlen
 obtain ⟨q, hqe⟩ : ∃ q, k / 8 = q := ⟨_, rfl⟩
 obtain ⟨f, hfe⟩ : ∃ f, k % 8 = f := ⟨_, rfl⟩
 have hq : q < s.size := by omega
 have hbit : Bt.bitL (R.at_ 0) k = ((s[q]'hq).toNat / 2 ^ f % 2 == 1) := by
  subst hqe hfe hs
  unfold Bt.bitL
  rw [List.getD_eq_getElem?_getD, List.getElem?_eq_getElem (by have : (R.at_ 0).length = 512 := hlen; omega), Nat.testBit_eq_decide_div_mod_eq]
  rfl
 have hz : ((((s[q]'hq).toNat : Int) / 2 ^ f).tmod 2 == 1) = Bt.bitL (R.at_ 0) k := by
  rw [hbit]
  have e : ((s[q]'hq).toNat : Int) / 2 ^ f = (((s[q]'hq).toNat / 2 ^ f : Nat) : Int) := by simp
  rw [e]
  generalize (s[q]'hq).toNat / 2 ^ f = z
  rw [Int.tmod_eq_emod_of_nonneg (by omega)]
  rcases Nat.mod_two_eq_zero_or_one z with h | h
  ·rw [h]
   have : ((z : Int) % 2) = 0 := by omega
   rw [this]
   rfl
  ·rw [h]
   have : ((z : Int) % 2) = 1 := by omega
   rw [this]
   rfl
 have hd1 : (k : Int) / 8 = (q : Int) := by omega
 have hd3 : (k : Int) % 8 = (f : Int) := by omega
 have hs8 : f < 8 := by omega
 have hfi : (f : Int) < 8 := by omega
 have hk2 : k <= 1024 := by omega
 obtain ⟨bb, hbb⟩ : ∃ bb, Bt.bitL (R.at_ 0) k = bb := ⟨_, rfl⟩
 rw [hbb] at hz ⊢
 have HS := hHd hs
 clear h hb0 hkw hW hs hqe hfe hbit hlen hbb hk hfew
 go_enter Tryz.func40, Tryz.ntmps40
 go_upto_region 1 with fail
 rw [<- HW.out]
 go_wp2_with (first | (refine wpList_load_mid rfl 39 (.tmp 2) rfl w.heap.size 0 rfl (rsV a c g R) _ (Box.range' B0.out) Tryz.underlying39 rfl (infoRs _ _ _ _) ?_) | fail)
 have hp := rpage_yes HR.out 0 HANY.out
 rw [HS.out] at hp
 refine hp.mono ?_
 clear hp
 rintro e w1 ⟨rfl, hk1⟩
 have K1 := hHd (KW.out.trans hk1)
 clear hk1
 go_wp2_with fail
 go_ret
 exact ⟨rfl, K1.out⟩
theorem rwith_any (h : Rv w a c g R) (i : Nat) (hi : i < R.pg.length) (b : List UInt8) (hb : b.length = 512) :
  Calls Tryz.prog 83 #[.agg (rsV a c g R).toArray, .int .i64 i, .string ⟨b.toArray⟩] w fun e w' => ∃ g', e = .returned (.agg (rsV a c g' ⟨R.pg, R.chg.put i b⟩).toArray) /\ Rv w' a c g' ⟨R.pg, R.chg.put i b⟩ /\ w.heap.size <= g' /\ Kp (fun _ => False) w w' := by
 have hmm := @run_makeMap Tryz.prog
 have Hr : Hid (Tryz.f83.results = #[.cell 6 39]) := hHd (by kernel_rfl)
 obtain ⟨W, hW, hb0, hb1, hkw⟩ := start_two w a c g R
 have HW := hHd hW
 have HLT := hHd h.lt
 have HSZ := hHd hkw.size
 have HB1 := hHd hb1.lt
 have hfew := h.few
 have HI := hHd hi
 have HB := hHd hb
 have ka : Kp (fun _ => False) W (W.alloc (.map #[] 0)) := (Kp.refl _ W).alloc _
 have KA := hHd (hkw.trans ka)
 have RA := hHd ((h.still hkw).still ka)
 have B0 := hHd (hb0.kp ka (fun e => e))
 have B1 := hHd (hb1.kp ka (fun e => e))
 have M0 := hHd (Smp.made W h.few)
 clear h hb0 hb1 hkw hW hi hb ka
 go_enter Tryz.func83, Tryz.ntmps83
 go_upto_region 1 with fail
 rw [<- HW.out]
 go_wp2_with fail
 obtain ⟨gm, hgm⟩ : ∃ gm, W.heap.size = gm := ⟨_, rfl⟩
 rw [hgm] at M0
 try rw [hgm]
 have HGM := hHd hgm
 clear hgm hmm
 generalize W.alloc (.map #[] 0) = W1 at *
 go_loopw [8] (fun s8 wr => ∃ k : Nat, k <= R.pg.length /\ s8 = .int .i64 k /\ Smp wr gm R.pg.length (R.chg.upto k) /\ Kp (fun q => q = gm) W1 wr) (fun s8 _ => R.pg.length - (Go.RowKit.intOf s8).toNat)
 case atStart => exact ⟨0, Nat.zero_le _, rfl, by rw [Bm.upto_zero]; exact M0.out, Kp.refl _ _⟩
 case round =>
  obtain ⟨k, hk, rfl, hm, hkw⟩ := hrel
  have n0 : ¬ w.heap.size = gm := by have := HGM.out; have := HSZ.out; have := HB1.out; omega
  have n1 : ¬ w.heap.size + 1 = gm := by have := HGM.out; have := HB1.out; omega
  have RR := hHd (RA.out.kp hkw (fun e => by have := HLT.out.1; have := HGM.out; have := HSZ.out; omega) (fun e => by have := HLT.out.2; have := HGM.out; have := HSZ.out; omega))
  have B0r := B0.out.kp hkw n0
  have B1r := hHd (B1.out.kp hkw n1)
  have y0 : wr.cell? ⟨w.heap.size, 0, none⟩ = some (.slice (some ⟨a, 0, none⟩) R.pg.length c) := B0r.cell 0
  have y1 : wr.cell? ⟨w.heap.size, 1, none⟩ = some (.map (some g)) := B0r.cell 1
  have HM := hHd hm
  have KW := hHd hkw
  clear hm hkw B0r n0 n1
  by_cases hlt : k < R.pg.length
  ·have HK63 := hHd (show k < 9223372036854775808 by omega)
   have HLK := hHd hlt
   go_wp2_with (first | (refine wpList_lookSt rfl (.tmp 21) (.tmp 22) rfl rfl RR.out.ch k HK63.out rfl ?_ ?_) | fail)
   ·intro hn t
    have HN := hHd hn
    clear hn
    go_wp2_with fail
    go_roundw
    case rel => exact ⟨k + 1, by omega, by go_num, by rw [Bm.upto_none HN.out]; exact HM.out, KW.out⟩
    case measure => simp [Go.RowKit.intOf]; omega
   ·intro p hp
    have HP := hHd hp
    have HPL := hHd (RR.out.ch.1.long k p hp)
    clear hp
    go_wp2_with (first | (refine wpList_putSt rfl (.tmp 27) (.tmp 28) (.tmp 29) rfl rfl HM.out k HLK.out p HPL.out rfl rfl ?_; intro w2 hm2 hk2; go_frame) | fail)
    have M2 := hHd hm2
    have K2 := hHd (KW.out.trans hk2)
    clear hm2 hk2
    go_roundw
    case rel => exact ⟨k + 1, by omega, by go_num, by rw [<- Bm.upto_some HP.out]; exact M2.out, K2.out⟩
    case measure => simp [Go.RowKit.intOf]; omega
  ·have hkn : k = R.pg.length := by omega
   have HM2 := hHd (show Smp wr gm R.pg.length R.chg by
    have := HM.out
    rw [hkn, Bm.upto_all RR.out.ch.1] at this
    exact this)
   clear hkn hk
   go_upto_region 9 with (first | (refine wpList_putSt rfl (.tmp 30) (.tmp 31) (.tmp 32) rfl rfl HM2.out i HI.out b HB.out rfl rfl ?_; intro w2 hm2 hk2) | fail)
   have n0 : ¬ w.heap.size = gm := by have := HGM.out; have := HSZ.out; have := HB1.out; omega
   have n1 : ¬ w.heap.size + 1 = gm := by have := HGM.out; have := HB1.out; omega
   have y2 : w2.cell? ⟨w.heap.size, 0, none⟩ = some (.slice (some ⟨a, 0, none⟩) R.pg.length c) := (hk2.cell (p := ⟨w.heap.size, 0, none⟩) (World.block_lt_of_cell? _ _ y0) n0).trans y0
   have B2 := hHd (B1r.out.kp hk2 n1)
   have R2 := hHd (RR.out.kp hk2 (fun e => by have := HLT.out.1; have := HGM.out; have := HSZ.out; omega) (fun e => by have := HLT.out.2; have := HGM.out; have := HSZ.out; omega))
   have M2 := hHd hm2
   have K2 := hHd (KA.out.trans_new (KW.out.trans hk2) (fun q e => .inl (by have := HGM.out; have := HSZ.out; have e : q = gm := e; omega)))
   clear hm2 hk2 y0 y1 n0 n1
   go_wp2_with (first | (refine dwpList_store_box rfl 39 (.tmp 6) (.tmp 36) rfl (w.heap.size + 1) (rsV a c gm ⟨R.pg, R.chg.put i b⟩) rfl rfl B2.out (by kernel_rfl) (infoRs _ _ _ _) (rsV_one _ _ _ _) ?_; intro w5 hb5 hk5) | fail)
   have lg := HGM.out
   have lw := HSZ.out
   have lb := HB1.out
   have la := HLT.out.1
   refine bodyPost_ret (v := .agg (rsV a c gm ⟨R.pg, R.chg.put i b⟩).toArray) ?_ rfl ⟨_, rfl, ⟨?_, R2.out.cap, R2.out.any, R2.out.each, M2.out.kp hk5 (fun e => by have e : gm = w.heap.size + 1 := e; omega)⟩, by omega, K2.out.trans_new hk5 (fun k e => .inl (by omega))⟩
   ·exact results_cell_row Hr.out _ _ (w.heap.size + 1) 39 _ (0, 0) _ rfl hb5 Tryz.underlying39 rfl (infoRsa _ _ _ _)
   ·obtain ⟨cur, hb, hx⟩ := R2.out.row
    exact ⟨cur, hb.kp hk5 (fun e => by have e : a = w.heap.size + 1 := e; omega), hx⟩
end
theorem rstore_byte (u : UInt8) (r : Nat) : bits .xor .u8 ((u.toNat : Nat) : Int) ((2 : Int) ^ r % 256) = (((u ^^^ UInt8.ofNat (2 ^ r)).toNat : Nat) : Int) := by
 have h := u8_xor_nat u.toNat (2 ^ r % 256) u.toNat_lt (Nat.mod_lt _ (by decide))
 rw [Int.natCast_emod, Int.natCast_pow] at h
 rw [UInt8.toNat_xor, UInt8.toNat_ofNat', <- h]
 rfl
def flipL (l : List UInt8) (i : Nat) : List UInt8 := l.set (i / 8) (l.getD (i / 8) 0 ^^^ UInt8.ofNat (2 ^ (i % 8)))
theorem flipL_length (l : List UInt8) (i : Nat) : (flipL l i).length = l.length := by simp [flipL]
theorem byN_flip (f : Nat -> Bool) (i : Nat) : Bt.byN (Bt.upd f i (!f i)) (i / 8) = Bt.byN f (i / 8) ^^^ 2 ^ (i % 8) := by
 apply Nat.eq_of_testBit_eq
 intro j
 rw [Nat.testBit_xor, Bt.byN_bit, Bt.byN_bit, Nat.testBit_two_pow]
 unfold Bt.upd
 have h8 : i % 8 < 8 := Nat.mod_lt _ (by decide)
 by_cases hj : i % 8 = j
 ·subst hj
  have e1 : 8 * (i / 8) + i % 8 = i := by omega
  rw [e1, if_pos rfl, decide_eq_true h8, decide_eq_true rfl]
  cases f i <;> rfl
 ·rw [decide_eq_false hj, Bool.xor_false]
  by_cases h9 : j < 8
  ·rw [if_neg (by omega)]
  ·rw [decide_eq_false h9]
   rfl
theorem byN_flips (f : Nat -> Bool) (i k : Nat) (h : i / 8 ≠ k) : Bt.byN (Bt.upd f i (!f i)) k = Bt.byN f k := by
 apply Nat.eq_of_testBit_eq
 intro j
 rw [Bt.byN_bit, Bt.byN_bit]
 unfold Bt.upd
 by_cases h9 : j < 8
 ·rw [if_neg (by omega)]
 ·rw [decide_eq_false h9]
  rfl
theorem flip_page (f : Nat -> Bool) (i : Nat) (hi : i < 4096) : flipL (Bt.pageL f) i = Bt.pageL (Bt.upd f i (!f i)) := by
 have hq : i / 8 < 512 := by omega
 have hg : (Bt.pageL f).getD (i / 8) 0 = UInt8.ofNat (Bt.byN f (i / 8)) := by
  rw [List.getD_eq_getElem?_getD, Bt.pageL_get _ _ hq]
  rfl
 have hx : UInt8.ofNat (Bt.byN f (i / 8)) ^^^ UInt8.ofNat (2 ^ (i % 8)) = UInt8.ofNat (Bt.byN (Bt.upd f i (!f i)) (i / 8)) := by
  rw [byN_flip, UInt8.ofNat_xor]
 unfold flipL
 rw [hg, hx]
 refine List.ext_getElem? fun k => ?_
 by_cases hk : k < 512
 ·rw [Bt.pageL_get _ _ hk, List.getElem?_set]
  by_cases e : i / 8 = k
  ·rw [if_pos e, if_pos (by rw [Bt.pageL_length]; omega), e]
  ·rw [if_neg e, Bt.pageL_get _ _ hk, byN_flips f i k e]
 ·rw [List.getElem?_eq_none (by rw [List.length_set, Bt.pageL_length]; omega), List.getElem?_eq_none (by rw [Bt.pageL_length]; omega)]
section
variable {w : World} {a c g : Nat} {R : Rs}
theorem rput_no (h : Rv w a c g R) (i : Int) (s : ByteArray) (hi : i < 1 \/ (R.pg.length : Int) <= i) :
  Calls Tryz.prog 34 #[.agg (rsV a c g R).toArray, .int .i64 i, .string s] w fun e w' => e = .returned (.tuple #[.agg (rsV a c g R).toArray, .int .i64 2]) /\ Kp (fun _ => False) w w' := by
 have Hr : Hid (Tryz.f34.results = #[.cell 6 39, .tmp 7]) := hHd (by kernel_rfl)
 obtain ⟨W, hW, hb0, hb1, hkw⟩ := start_two w a c g R
 have HW := hHd hW
 have KW := hHd hkw
 have hfew := h.few
 have B0 := hHd hb0
 have B1 := hHd hb1
 have y0 : W.cell? ⟨w.heap.size, 0, none⟩ = some (.slice (some ⟨a, 0, none⟩) R.pg.length c) := hb0.cell 0
 clear h hb0 hb1 hkw hW
 by_cases h0 : i < 1
 ·clear hi
  go_enter Tryz.func34, Tryz.ntmps34
  go_upto_region 1 with fail
  rw [<- HW.out]
  go_wp2_with (first | (refine wpList_load_mid rfl 39 (.tmp 3) rfl w.heap.size 0 rfl (rsV a c g R) _ (Box.range' B0.out) Tryz.underlying39 rfl (infoRs _ _ _ _) ?_) | (refine dwpList_store_box rfl 39 (.tmp 6) (.tmp 22) rfl (w.heap.size + 1) (rsV a c g R) rfl rfl B1.out (by kernel_rfl) (infoRs _ _ _ _) (rsV_one _ _ _ _) ?_; intro w5 hb5 hk5) | fail)
  refine bodyPost_ret (v := .tuple #[.agg (rsV a c g R).toArray, .int .i64 2]) ?_ rfl ⟨rfl, KW.out.trans_new hk5 (fun k e => .inl (by omega))⟩
  exact Bt.bresults_two Hr.out _ _ (w.heap.size + 1) 39 _ (0, 0) _ rfl hb5 Tryz.underlying39 rfl (infoRsa _ _ _ _)
 ·have h1 : (R.pg.length : Int) <= i := hi.resolve_left h0
  clear hi
  go_enter Tryz.func34, Tryz.ntmps34
  go_upto_region 1 with fail
  rw [<- HW.out]
  go_wp2_with (first | (refine wpList_load_mid rfl 39 (.tmp 3) rfl w.heap.size 0 rfl (rsV a c g R) _ (Box.range' B0.out) Tryz.underlying39 rfl (infoRs _ _ _ _) ?_) | (refine dwpList_store_box rfl 39 (.tmp 6) (.tmp 22) rfl (w.heap.size + 1) (rsV a c g R) rfl rfl B1.out (by kernel_rfl) (infoRs _ _ _ _) (rsV_one _ _ _ _) ?_; intro w5 hb5 hk5) | fail)
  refine bodyPost_ret (v := .tuple #[.agg (rsV a c g R).toArray, .int .i64 2]) ?_ rfl ⟨rfl, KW.out.trans_new hk5 (fun k e => .inl (by omega))⟩
  exact Bt.bresults_two Hr.out _ _ (w.heap.size + 1) 39 _ (0, 0) _ rfl hb5 Tryz.underlying39 rfl (infoRsa _ _ _ _)
theorem rput_yes (h : Rv w a c g R) (i : Nat) (h1 : 1 <= i) (hi : i < R.pg.length) (b : List UInt8) (hb : b.length = 512) :
  Calls Tryz.prog 34 #[.agg (rsV a c g R).toArray, .int .i64 i, .string ⟨b.toArray⟩] w fun e w' => ∃ g', e = .returned (.tuple #[.agg (rsV a c g' ⟨R.pg, R.chg.put i b⟩).toArray, .int .i64 0]) /\ Rv w' a c g' ⟨R.pg, R.chg.put i b⟩ /\ w.heap.size <= g' /\ Kp (fun _ => False) w w' := by
 have Hr : Hid (Tryz.f34.results = #[.cell 6 39, .tmp 7]) := hHd (by kernel_rfl)
 obtain ⟨W, hW, hb0, hb1, hkw⟩ := start_two w a c g R
 have HW := hHd hW
 have KW := hHd hkw
 have hfew := h.few
 have HLT := hHd h.lt
 have B0 := hHd hb0
 have B1 := hHd hb1
 have HI := hHd hi
 have HB := hHd hb
 have y0 : W.cell? ⟨w.heap.size, 0, none⟩ = some (.slice (some ⟨a, 0, none⟩) R.pg.length c) := hb0.cell 0
 have CALL := hHd (rwith_any (h.still hkw) i hi b hb)
 obtain ⟨s, hs⟩ : ∃ s : ByteArray, (⟨b.toArray⟩ : ByteArray) = s := ⟨_, rfl⟩
 have hss : s.size = 512 := by rw [<- hs]; exact hb
 have hsi : ((s.size : Int) != 512) = false := by simp; omega
 rw [hs] at CALL ⊢
 have d1 : ¬ (i : Int) < 1 := by omega
 have d2 : ¬ (R.pg.length : Int) <= (i : Int) := by omega
 clear h hb0 hb1 hkw hW hs hi hb h1 hss
 go_enter Tryz.func34, Tryz.ntmps34
 go_upto_region 1 with fail
 rw [<- HW.out]
 go_wp2_with (first | (refine wpList_load_mid rfl 39 (.tmp 3) rfl w.heap.size 0 rfl (rsV a c g R) _ (Box.range' B0.out) Tryz.underlying39 rfl (infoRs _ _ _ _) ?_) | fail)
 refine CALL.out.mono ?_
 rintro e w1 ⟨g', rfl, hr, hg', hk1⟩
 have B2 := hHd (B1.out.kp hk1 (fun e => e))
 have R2 := hHd hr
 have K1 := hHd (KW.out.trans hk1)
 have HG := hHd hg'
 clear hr hk1 hg'
 go_wp2_with (first | (refine dwpList_store_box rfl 39 (.tmp 6) (.tmp 26) rfl (w.heap.size + 1) (rsV a c g' ⟨R.pg, R.chg.put i b⟩) rfl rfl B2.out (by kernel_rfl) (infoRs _ _ _ _) (rsV_one _ _ _ _) ?_; intro w5 hb5 hk5) | fail)
 have lg := HG.out
 have lw := KW.out.size
 have lb := B1.out.lt
 obtain ⟨l1, l2⟩ := HLT.out
 refine bodyPost_ret (v := .tuple #[.agg (rsV a c g' ⟨R.pg, R.chg.put i b⟩).toArray, .int .i64 0]) ?_ rfl ⟨g', rfl, R2.out.kp hk5 (fun e => by have e : a = w.heap.size + 1 := e; omega) (fun e => by have e : g' = w.heap.size + 1 := e; omega), by omega, K1.out.trans_new hk5 (fun k e => .inl (by omega))⟩
 exact Bt.bresults_two Hr.out _ _ (w.heap.size + 1) 39 _ (0, 0) _ rfl hb5 Tryz.underlying39 rfl (infoRsa _ _ _ _)
theorem rset_any (h : Rv w a c g R) (i : Nat) (hi : i < R.pg.length) :
  Calls Tryz.prog 84 #[.agg (rsV a c g R).toArray, .int .i64 i] w fun e w' => ∃ g', e = .returned (.agg (rsV a c g' ⟨R.pg, R.chg.put 0 (flipL (R.at_ 0) i)⟩).toArray) /\ Rv w' a c g' ⟨R.pg, R.chg.put 0 (flipL (R.at_ 0) i)⟩ /\ w.heap.size <= g' /\ Kp (fun _ => False) w w' := by
 have Hr : Hid (Tryz.f84.results = #[.cell 4 39]) := hHd (by kernel_rfl)
 obtain ⟨W, hW, hb0, hb1, hkw⟩ := start_two w a c g R
 have HW := hHd hW
 have KW := hHd hkw
 have hfew := h.few
 have HLT := hHd h.lt
 have B0 := hHd hb0
 have B1 := hHd hb1
 have HANY := hHd h.any
 have HR := hHd (h.still hkw)
 have hlen := h.at_len h.any
 obtain ⟨l, hl⟩ : ∃ l, R.at_ 0 = l := ⟨_, rfl⟩
 rw [hl] at hlen ⊢
 have hp := rpage_yes HR.out 0 HANY.out
 rw [hl] at hp
 have HP := hHd hp
 have HLEN := hHd hlen
 have hi8 := hi
 clear h hb0 hb1 hkw hW hl hp
 go_enter Tryz.func84, Tryz.ntmps84
 go_upto_region 1 with fail
 rw [<- HW.out]
 go_wp2_with (first | (refine wpList_load_mid rfl 39 (.tmp 2) rfl w.heap.size 0 rfl (rsV a c g R) _ (Box.range' B0.out) Tryz.underlying39 rfl (infoRs _ _ _ _) ?_) | fail)
 refine HP.out.mono ?_
 rintro e w1 ⟨rfl, hk1⟩
 have B01 := hHd (B0.out.kp hk1 (fun e => e))
 have B11 := hHd (B1.out.kp hk1 (fun e => e))
 have R1 := hHd (HR.out.still hk1)
 have K1 := hHd (KW.out.trans hk1)
 clear hk1
 go_upto_region 2 with fail
 have hbs := run_bytes_of_string (P := Tryz.prog) w1 9 50 5 ⟨l.toArray⟩ Tryz.underlying9 Tryz.underlying50 Tryz.underlying5
 generalize hcap : grownCap w1 (ByteArray.size ⟨l.toArray⟩) 0 5 = cap at hbs
 clear hcap
 have hrow : 512 <= (bytesRow ⟨l.toArray⟩ cap).size := by
  simp [bytesRow]
  omega
 generalize hrs : (bytesRow ⟨l.toArray⟩ cap).size = rs at hbs hrow
 clear hrs
 go_upto_region 3 with fail
 obtain ⟨W3, hW3, hk3, hrd3, hfz3⟩ : ∃ W3, W3 = (w1.alloc (.cells (bytesRow ⟨l.toArray⟩ cap) 5 (rs, rs + 1))).drew /\ Kp (fun _ => False) w1 W3 /\ Rd W3 (some ⟨w1.heap.size, 0, none⟩) l /\ ∀ q, q < 512 -> W3.frozen? ⟨w1.heap.size, q, none⟩ = false := ⟨_, rfl, ((Kp.refl _ w1).alloc _).drew, rd_text w1 ⟨l.toArray⟩ cap _ _, fun q hq => by
  simp [World.frozen?, World.drew, World.alloc, -World.alloc_eq, -World.drew_eq]
  omega⟩
 rw [<- hW3]
 obtain ⟨gc, hgc⟩ : ∃ gc, w1.heap.size = gc := ⟨_, rfl⟩
 rw [hgc] at hrd3 hfz3
 try rw [hgc]
 obtain ⟨q, hqe⟩ : ∃ q, i / 8 = q := ⟨_, rfl⟩
 obtain ⟨f, hfe⟩ : ∃ f, i % 8 = f := ⟨_, rfl⟩
 have hq : q < 512 := by omega
 obtain ⟨u, hu⟩ : ∃ u, l[q]? = some u := ⟨_, List.getElem?_eq_getElem (by omega)⟩
 have hd1 : (i : Int) / 8 = (q : Int) := by omega
 have hd3 : (i : Int) % 8 = (f : Int) := by omega
 have hd2 : (i : Int).tdiv 8 = (q : Int) := by rw [Int.tdiv_eq_ediv_of_nonneg (by omega)]; exact hd1
 have hd4 : (i : Int).tmod 8 = (f : Int) := by rw [Int.tmod_eq_emod_of_nonneg (by omega)]; exact hd3
 have hs8 : f < 8 := by omega
 have hfi : (f : Int) < 8 := by omega
 have hqi : (q : Int) < 512 := by omega
 have hqw : IntKind.i64.wrap (q : Int) = (q : Int) := IntWalk.i64_in _ (by omega)
 have hsw : IntKind.i64.wrap (f : Int) = (f : Int) := IntWalk.i64_in _ (by omega)
 have hfl : flipL l i = l.set q (u ^^^ UInt8.ofNat (2 ^ f)) := by
  unfold flipL
  rw [hqe, hfe, List.getD_eq_getElem?_getD, hu]
  rfl
 have y : W3.cell? ⟨gc, q, none⟩ = some (.int .u8 u.toNat) := by
  rcases hrd3 with h0 | ⟨b, o, hb, hc⟩
  ·rw [h0] at hu
   cases hu
  ·injection hb with hb
   injection hb with hb1 hb2
   subst hb1 hb2
   have := hc q u hu
   rwa [Nat.zero_add] at this
 have yf := hfz3 q hq
 have HRD3 := hHd hrd3
 have HFL := hHd hfl
 have HU := hHd hu
 have K3 := hHd (K1.out.trans hk3)
 have HGC := hHd hgc
 have LGC := hHd (show gc < W3.heap.size from World.block_lt_of_cell? W3 ⟨gc, q, none⟩ y)
 have B03 := hHd (B01.out.kp hk3 (fun e => e))
 have B13 := hHd (B11.out.kp hk3 (fun e => e))
 have R3 := hHd (R1.out.still hk3)
 clear hbs hW3 hk3 hrd3 hfz3 hgc hqe hfe hu hfl hlen
 go_still_tail 13, (by kernel_rfl)
 change wpList _ _ _ _ _ W3.drew
 go_upto_region 4 with fail
 obtain ⟨W4, hW4, hk4, hrd4⟩ : ∃ W4, W4 = (W3.setCell ⟨gc, q, none⟩ (.int .u8 (bits .xor .u8 (u.toNat : Int) ((2 : Int) ^ f % 256)))).drew /\ Kp (fun k => k = gc) W3 W4 /\ Rd W4 (some ⟨gc, 0, none⟩) (flipL l i) := ⟨_, rfl, (Kp.one W3 gc q _).drew, .inr ⟨gc, 0, rfl, fun j v hj => by
  rw [HFL.out] at hj
  rw [Nat.zero_add]
  show (W3.setCell _ _).cell? _ = _
  by_cases e : j = q
  ·subst e
   rw [World.cell?_setCell_same _ _ _ y, rstore_byte u f]
   rw [List.getElem?_set_self (by have := (List.getElem?_eq_some_iff.1 HU.out).1; omega)] at hj
   injection hj with hj
   rw [hj]
  ·rw [World.cell?_setCell_other _ _ _ _ (by intro h; injection h with _ h _; exact e h.symm)]
   rw [List.getElem?_set_ne (Ne.symm e)] at hj
   rcases HRD3.out with h0 | ⟨b, o, hb, hc⟩
   ·rw [h0] at hj
    simp at hj
   ·injection hb with hb
    injection hb with hb1 hb2
    subst hb1 hb2
    have := hc j v hj
    rwa [Nat.zero_add] at this⟩⟩
 rw [<- hW4]
 have ht := hrd4.text (P := Tryz.prog) 50 9 5 cap Tryz.underlying50 Tryz.underlying5 Tryz.underlying9
 have hfl2 : (flipL l i).length = 512 := by rw [flipL_length]; exact HLEN.out
 rw [hfl2] at ht
 have lgc := HGC.out
 have lk1 := K1.out.size
 have lw := KW.out.size
 have lb := B11.out.lt
 have B04 := hHd (B03.out.kp hk4 (fun e => by have e : w.heap.size = gc := e; omega))
 have B14 := hHd (B13.out.kp hk4 (fun e => by have e : w.heap.size + 1 = gc := e; omega))
 have R4 := hHd (R3.out.kp hk4 (fun e => by have e : a = gc := e; have := HLT.out.1; omega) (fun e => by have e : g = gc := e; have := HLT.out.2; omega))
 have K4 := hHd (K3.out.trans_new hk4 (fun k e => .inl (by have e : k = gc := e; omega)))
 have CALL := hHd (rwith_any R4.out 0 HANY.out (flipL l i) hfl2)
 clear hW4 hk4 hrd4 hfl2 y yf hd1 hd2 hd3 hd4 hs8 hfi lgc lk1 lw lb
 go_wp2_with (first | (refine wpList_load_mid rfl 39 (.tmp 2) rfl w.heap.size 0 rfl (rsV a c g R) _ (Box.range' B04.out) Tryz.underlying39 rfl (infoRs _ _ _ _) ?_) | fail)
 refine CALL.out.mono ?_
 rintro e w5 ⟨g', rfl, hr, hg', hk5⟩
 have B2 := hHd (B14.out.kp hk5 (fun e => e))
 have R2 := hHd hr
 have K5 := hHd (K4.out.trans hk5)
 have HG := hHd hg'
 clear hr hk5 hg' ht
 go_wp2_with (first | (refine dwpList_store_box rfl 39 (.tmp 4) (.tmp 31) rfl (w.heap.size + 1) (rsV a c g' ⟨R.pg, R.chg.put 0 (flipL l i)⟩) rfl rfl B2.out (by kernel_rfl) (infoRs _ _ _ _) (rsV_one _ _ _ _) ?_; intro w6 hb6 hk6) | fail)
 have lg := HG.out
 have lw := K4.out.size
 have lb := B14.out.lt
 obtain ⟨l1, l2⟩ := HLT.out
 refine bodyPost_ret (v := .agg (rsV a c g' ⟨R.pg, R.chg.put 0 (flipL l i)⟩).toArray) ?_ rfl ⟨g', rfl, R2.out.kp hk6 (fun e => by have e : a = w.heap.size + 1 := e; omega) (fun e => by have e : g' = w.heap.size + 1 := e; omega), by omega, K5.out.trans_new hk6 (fun k e => .inl (by omega))⟩
 exact results_cell_row Hr.out _ _ (w.heap.size + 1) 39 _ (0, 0) _ rfl hb6 Tryz.underlying39 rfl (infoRsa _ _ _ _)
end
end Go.Proofs.YtepaeliamhjgiaaGreatDoor
