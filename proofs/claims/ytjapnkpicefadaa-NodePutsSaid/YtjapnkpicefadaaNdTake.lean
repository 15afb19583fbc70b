/- What Take answers: the node of a page, or none. Condition: at most 2^47 bytes. -/
import Derived.Test.YtjapnkpicefadaaNdTk
namespace Go.Proofs.Ytjapnkpicefadaa
open Go.RowKit

theorem rdv_far {w w' : World} {A : Option Addr} {xs : List Value} {g : Nat} {t : TypeId} {m : Nd} {q : Pl} (h : RdV w A xs) (hk : Kp (fun k => k = g) w w') (hb : Box w g t (ncs m q)) (hx : ∀ u ∈ xs, (∃ s, u = .string s) ∨ ∃ z, u = .int .i64 z) : RdV w' A xs := by
  rcases h with h | ⟨b, o, rfl, hc⟩
  · exact .inl h
  refine .inr ⟨b, o, rfl, fun j u hu => (hk.cell (p := ⟨b, o + j, none⟩) (World.block_lt_of_cell? w ⟨b, o + j, none⟩ (hc j u hu)) ?_).trans (hc j u hu)⟩
  rintro rfl
  have h1 := hc j u hu
  rw [hb.cell] at h1
  have h2 := hx u (List.mem_of_getElem? hu)
  generalize o + j = i at h1
  rcases i with _ | _ | _ | _ | i <;> simp [ncs] at h1 <;> subst h1 <;> simp at h2
theorem nd_far {w w' : World} {n m : Nd} {p q : Pl} {g : Nat} {t : TypeId} (h : NdR w n p) (hk : Kp (fun k => k = g) w w') (hb : Box w g t (ncs m q)) : NdR w' n p := by
  have hs : ∀ l : List ByteArray, ∀ u ∈ sts l, (∃ s, u = .string s) ∨ ∃ z, u = .int .i64 z := fun l u hu => by
    obtain ⟨s, _, rfl⟩ := List.mem_map.1 hu
    exact .inl ⟨s, rfl⟩
  have hi : ∀ l : List Int, ∀ u ∈ its l, (∃ s, u = .string s) ∨ ∃ z, u = .int .i64 z := fun l u hu => by
    obtain ⟨s, _, rfl⟩ := List.mem_map.1 hu
    exact .inr ⟨s, rfl⟩
  exact ⟨rdv_far h.k hk hb (hs _), rdv_far h.v hk hb (hs _), rdv_far h.c hk hb (hi _), h.lk, h.lv, h.lc⟩
def TakeEnd (kw vw : Int) (l : List UInt8) (w : World) (e : Ending) (w' : World) : Prop := ∃ p, e = .returned (.tuple #[.agg (ncs (takeS kw vw l).1 p), .int .i64 (takeS kw vw l).2]) ∧ NdR w' (takeS kw vw l).1 p ∧ Kp (fun _ => False) w w'
set_option maxRecDepth 100000 in
set_option maxHeartbeats 8000000 in
theorem take_any (kw vw : Int) (A : Option Addr) (n c : Nat) (l : List UInt8) (w : World) (hn : l.length = n) (hr : Rd w A l) (hlen : l.length ≤ 140737488355328) :
    Calls Try.prog 19 #[.agg #[.int .i64 kw, .int .i64 vw], .slice A n c] w (TakeEnd kw vw l w) := by
  have Hr : Hid (Try.f19.results = #[.cell 4 36, .tmp 5]) := Lib.hid (by kernel_rfl)
  obtain ⟨W, hW, b0, b1, k0⟩ : ∃ W, W = (w.alloc (.cells #[.int .i64 kw, .int .i64 vw] 30)).alloc (.cells #[.bool false, .slice none 0 0, .slice none 0 0, .slice none 0 0] 36) ∧ Box W w.heap.size 30 #[.int .i64 kw, .int .i64 vw] ∧ Box W (w.heap.size + 1) 36 #[.bool false, .slice none 0 0, .slice none 0 0, .slice none 0 0] ∧ Kp (fun _ => False) w W := ⟨_, rfl, (Box.new w _ _).alloc _, by simpa using Box.new (w.alloc (.cells #[.int .i64 kw, .int .i64 vw] 30)) 36 #[.bool false, .slice none 0 0, .slice none 0 0, .slice none 0 0], ((Kp.refl _ w).alloc _).alloc _⟩
  have HW := Lib.hid hW
  have B0 := Lib.hid b0
  have B1 := Lib.hid b1
  have K0 := Lib.hid k0
  have HR := Lib.hid (rd_still hr k0)
  have HRW := Lib.hid hr
  have HN := Lib.hid hn
  have HLE := Lib.hid hlen
  have y0 : W.cell? ⟨w.heap.size, 0, none⟩ = some (.int .i64 kw) := b0.cell 0
  have y1 : W.cell? ⟨w.heap.size, 1, none⟩ = some (.int .i64 vw) := b0.cell 1
  clear hW b0 b1 k0 hr hn hlen
  rcases hb : shB kw vw with _ | _
  · have HB := Lib.hid hb
    have HT : Hid (takeS kw vw l = (nd0, 2)) := Lib.hid (by unfold takeS; rw [if_pos hb])
    clear hb
    go_enter Try.func19, Try.ntmps19
    go_upto_region 1 with fail
    rw [← HW.out]
    go_wp2_with fail
    refine (may_any _ _ _).mono ?_
    rintro e w1 ⟨rfl, kk⟩
    have K1 := Lib.hid (K0.out.trans kk)
    have B01 := Lib.hid (B0.out.kp kk (fun e => e))
    have B11 := Lib.hid (B1.out.kp kk (fun e => e))
    have HR1 := Lib.hid (rd_still HR.out kk)
    clear kk y0 y1
    rw [HB.out]
    have y2 : World.cell? w1 ⟨w.heap.size + 1, 0, none⟩ = some (.bool false) := B11.out.cell 0
    clear y2
    go_wp2_with (first | (refine nstore_box rfl 36 (.tmp 4) (.tmp 12) rfl (w.heap.size + 1) [.bool false, .slice none 0 0, .slice none 0 0, .slice none 0 0] rfl rfl B11.out rfl (by kernel_rfl) (ncs_one nd0 pl0) ?_; intro w9 hb9 hk9; have HB9 := Lib.hid hb9; have HK9 := Lib.hid hk9; clear hb9 hk9) | fail)
    refine bodyPost_ret (v := .tuple #[.agg (ncs nd0 pl0), .int .i64 2]) ?_ rfl ?_
    · exact nresults_two Hr.out _ _ (w.heap.size + 1) _ _ (0, 0) _ rfl HB9.out Try.underlying36 rfl (by kernel_rfl)
    · rw [TakeEnd, HT.out]
      exact ⟨pl0, rfl, .zero _, K1.out.trans_new HK9.out (fun q e => .inl (by omega))⟩
  · have HB := Lib.hid hb
    have HSH := Lib.hid (shB_iff.1 hb)
    clear hb
    by_cases hl : l.length = 512
    · have hd : ((n : Int) != 512) = false := by have := HN.out; simp; omega
      have HL := Lib.hid hl
      clear hl
      go_enter Try.func19, Try.ntmps19
      go_upto_region 1 with fail
      rw [← HW.out]
      go_wp2_with fail
      refine (may_any _ _ _).mono ?_
      rintro e w1 ⟨rfl, kk⟩
      have K1 := Lib.hid (K0.out.trans kk)
      have B01 := Lib.hid (B0.out.kp kk (fun e => e))
      have B11 := Lib.hid (B1.out.kp kk (fun e => e))
      have HR1 := Lib.hid (rd_still HR.out kk)
      clear kk y0 y1
      rw [HB.out]
      go_upto_region 5 with fail
      clear hd
      obtain ⟨hs1, hs2, hs3, hs4⟩ := HSH.out
      obtain ⟨kn, rfl⟩ : ∃ kn : Nat, kw = kn := ⟨kw.toNat, by omega⟩
      obtain ⟨vn, rfl⟩ : ∃ vn : Nat, vw = vn := ⟨vw.toNat, by omega⟩
      have hkn : kn ≤ 64 := by omega
      have hvn : vn ≤ 64 := by omega
      clear hs1 hs2 hs3 hs4
      have B01 := Lib.hid B01.out.drew
      have B11 := Lib.hid B11.out.drew
      have HR1 := Lib.hid (rd_still HR1.out (Kp.refl (fun _ => False) w1).drew)
      have K1 := Lib.hid K1.out.drew
      obtain ⟨wa, hwa⟩ : ∃ wa, wa = w1.drew := ⟨_, rfl⟩
      rw [← hwa] at B01 B11 HR1 K1
      refine wp_region_held_drew (S := fun v => Box v w.heap.size 30 #[.int .i64 (kn : Int), .int .i64 (vn : Int)]) (by kernel_rfl) (by rw [← hwa]; exact B01.out) (fun hHeld => ?_)
      rw [← hwa] at hHeld ⊢
      clear hwa
      have B0a := B01
      have B1a := B11
      have HRa := HR1
      have Ka := K1
      clear B01 B11 HR1 K1
      refine tk 0 (hy := fun v hv => nexec_load 30 (.tmp 2) rfl w.heap.size 0 rfl [.int .i64 (kn : Int), .int .i64 (vn : Int)] _ (Box.range hv) Try.underlying30 rfl (by kernel_rfl)) (h := ?_)
      refine tk 1 (h := ?_)
      refine wpAnyH_ready (rs := [2, 4]) (by kernel_rfl) (by simp) ?_
      refine rdc 2 (h := fun K hK => ?_) (hs := rdc 4 (h := fun K hK => ?_) (hs := AllReadyH.nil))
      · go_simp
        refine (of_any (fun k => wa.heap.size ≤ k) wa (fun k h => h) A n c l HN.out HRa.out HLE.out).mono ?_
        rintro e wb ⟨b, rfl, hbs, ho, hk⟩
        have B0b := Lib.hid (B0a.out.kp hk (fun e => e))
        have B1b := Lib.hid (B1a.out.kp hk (fun e => e))
        have HRb := Lib.hid (rd_still HRa.out hk)
        have Kb := Lib.hid (Ka.out.trans hk)
        have HBS : Hid (w.heap.size + 1 < b) := Lib.hid (by have := B1a.out.lt; omega)
        have OIb : Hid (Oi 0 (fun _ => False) wb b (l, false)) := Lib.hid ⟨_, ho.old, fun k g => ⟨Nat.zero_le _, g.2, fun e => e⟩⟩
        clear hbs ho hk
        go_wp2_with fail
        refine hK.out _ _ (B0b.out) (fun hHeld8 => ?_)
        clear hK K
        try simp only [Act.put, List.setIfInBounds_toArray, List.set_cons_zero, List.set_cons_succ]
        refine wpAnyH_ready (rs := [3, 4]) (by kernel_rfl) (by simp) ?_
        refine rdc 3 (h := fun K hK => ?_) (hs := rdc 4 (h := fun K hK => ?_) (hs := AllReadyH.nil))
        · go_simp
          have hrc := read_any kn vn l b (fun k => k = b ∨ wb.heap.size ≤ k) wb (.inl rfl) (fun k h => .inr h) OIb.out hkn hvn
          refine hrc.mono ?_
          clear hrc
          rintro e wc ⟨q, rfl, hr, hk⟩
          have B0c := Lib.hid (B0b.out.kp hk (fun e => by have := HBS.out; have := B0b.out.lt; omega))
          have B1c := Lib.hid (B1b.out.kp hk (fun e => by have := HBS.out; have := B1b.out.lt; omega))
          have NRc := Lib.hid hr
          have Kc : Hid (Kp (fun _ => False) w wc) := Lib.hid (Kb.out.trans_new hk (fun q e => .inl (by have := HBS.out; have := Kb.out.size; omega)))
          have HRc := Lib.hid (rd_still HRW.out Kc.out)
          clear hr hk
          go_wp2_with fail
          refine hK.out _ _ (B0c.out) (fun hHeld6 => ?_)
          clear hK K
          try simp only [Act.put, List.setIfInBounds_toArray, List.set_cons_zero, List.set_cons_succ]
          refine rd 4 (h := fun K hK => ?_)
          go_simp
          obtain ⟨wd, hwq, hbq, hkq⟩ : ∃ wd, wd = wc.alloc (.cells #[.bool false, .slice none 0 0, .slice none 0 0, .slice none 0 0] 36) ∧ Box wd wc.heap.size 36 #[.bool false, .slice none 0 0, .slice none 0 0, .slice none 0 0] ∧ Kp (fun _ => False) wc wd := ⟨_, rfl, Box.new wc _ _, (Kp.refl _ wc).alloc _⟩
          rw [← hwq]
          obtain ⟨ga, hga⟩ : ∃ ga, wc.heap.size = ga := ⟨_, rfl⟩
          have HGS : Hid (w.heap.size + 1 < ga) := Lib.hid (by have := B1c.out.lt; omega)
          rw [hga] at hbq ⊢
          have GAd := Lib.hid hbq
          have B0d := Lib.hid (B0c.out.kp hkq (fun e => e))
          have B1d := Lib.hid (B1c.out.kp hkq (fun e => e))
          have HRd := Lib.hid (rd_still HRc.out hkq)
          have Kd := Lib.hid (Kc.out.trans hkq)
          have NRd := Lib.hid (NRc.out.still hkq)
          clear hwq hbq hkq hga
          refine hK.out _ _ (B0d.out) (fun hHeld4 => ?_)
          clear hK K
          try simp only [Act.put, List.setIfInBounds_toArray, List.set_cons_zero, List.set_cons_succ]
          refine rd 5 (h := fun K hK => ?_)
          rw [if_pos (by rfl)]
          refine nwp_store_box 36 (.tmp 6) (.tmp 20) rfl ga (ncs (readN kn vn l) q).toList rfl rfl GAd.out rfl (by kernel_rfl) (ncs_one _ _) ?_
          intro we hbe hke
          have GAe := Lib.hid hbe
          have B0e := Lib.hid (B0d.out.kp hke (fun e => by have := HGS.out; omega))
          have B1e := Lib.hid (B1d.out.kp hke (fun e => by have := HGS.out; omega))
          have Ke : Hid (Kp (fun _ => False) w we) := Lib.hid (Kd.out.trans_new hke (fun q e => .inl (by have := HGS.out; omega)))
          have HRe := Lib.hid (rd_still HRW.out Ke.out)
          have NRe := Lib.hid (nd_far (m := nd0) (q := pl0) NRd.out hke GAd.out)
          clear hbe hke
          refine hK.out _ _ (B0e.out) (fun hHeld1 => ?_)
          clear hK K
          try simp only [Act.put]
          refine wpAnyH_done (by kernel_rfl) ?_ _
          clear hHeld
          have z0 : World.cell? we ⟨w.heap.size, 0, none⟩ = some (.int .i64 (kn : Int)) := B0e.out.cell 0
          have z1 : World.cell? we ⟨w.heap.size, 1, none⟩ = some (.int .i64 (vn : Int)) := B0e.out.cell 1
          go_wp2_with (first | (refine wpList_load_mid rfl 36 (.tmp 6) rfl ga 0 rfl (ncs (readN kn vn l) q).toList _ GAe.out.range Try.underlying36 rfl (by kernel_rfl) ?_) | fail)
          refine (put_any (kn : Int) (vn : Int) (readN kn vn l) q _ NRe.out).mono ?_
          rintro e wf ⟨A2, c2, rfl, hpg, hle, hcm, hk⟩
          have HPG := Lib.hid hpg
          have B1f := Lib.hid (B1e.out.kp hk (fun e => e))
          have GAf := Lib.hid (GAe.out.kp hk (fun e => e))
          have HRf := Lib.hid (rd_still HRe.out hk)
          have NRf := Lib.hid (NRe.out.still hk)
          have Kf := Lib.hid (Ke.out.trans hk)
          clear hpg hk z0 z1
          rcases hok : okB (kn : Int) (vn : Int) (readN kn vn l) with _ | _
          · have HT : Hid (takeS (kn : Int) (vn : Int) l = (nd0, 3)) := Lib.hid (by
              unfold takeS
              rw [HB.out, if_neg (by simp), if_neg (by rw [HL.out]; simp), Int.toNat_natCast, Int.toNat_natCast, hok]
              rfl)
            clear hok hle hcm
            simp only [Bool.false_eq_true, if_false]
            go_wp2_with (first | (refine nstore_box rfl 36 (.tmp 4) (.tmp 35) rfl (w.heap.size + 1) [.bool false, .slice none 0 0, .slice none 0 0, .slice none 0 0] rfl rfl B1f.out rfl (by kernel_rfl) (ncs_one nd0 pl0) ?_; intro w9 hb9 hk9; have HB9 := Lib.hid hb9; have HK9 := Lib.hid hk9; clear hb9 hk9) | fail)
            refine bodyPost_ret (v := .tuple #[.agg (ncs nd0 pl0), .int .i64 3]) ?_ rfl ?_
            · exact nresults_two Hr.out _ _ (w.heap.size + 1) _ _ (0, 0) _ rfl HB9.out Try.underlying36 rfl (by kernel_rfl)
            · rw [TakeEnd, HT.out]
              exact ⟨pl0, rfl, .zero _, Kf.out.trans_new HK9.out (fun q e => .inl (by omega))⟩
          · have HOK := Lib.hid hok
            rw [hok] at hle
            clear hok
            simp only [if_true] at hle ⊢
            go_wp2_with fail
            refine (nequal_any A A2 c c2 n 512 l (pageL (readN kn vn l)) _ HN.out (page_len HOK.out) HRf.out (HPG.out HOK.out)).mono ?_
            rintro e wg ⟨rfl, rfl⟩
            rcases heq : (l == pageL (readN kn vn l)) with _ | _
            · have HT : Hid (takeS (kn : Int) (vn : Int) l = (nd0, 3)) := Lib.hid (by
                unfold takeS
                rw [HB.out, if_neg (by simp), if_neg (by rw [HL.out]; simp), Int.toNat_natCast, Int.toNat_natCast, HOK.out, heq]
                rfl)
              clear heq hle hcm
              go_wp2_with (first | (refine nstore_box rfl 36 (.tmp 4) (.tmp 35) rfl (w.heap.size + 1) [.bool false, .slice none 0 0, .slice none 0 0, .slice none 0 0] rfl rfl B1f.out rfl (by kernel_rfl) (ncs_one nd0 pl0) ?_; intro w9 hb9 hk9; have HB9 := Lib.hid hb9; have HK9 := Lib.hid hk9; clear hb9 hk9) | fail)
              refine bodyPost_ret (v := .tuple #[.agg (ncs nd0 pl0), .int .i64 3]) ?_ rfl ?_
              · exact nresults_two Hr.out _ _ (w.heap.size + 1) _ _ (0, 0) _ rfl HB9.out Try.underlying36 rfl (by kernel_rfl)
              · rw [TakeEnd, HT.out]
                exact ⟨pl0, rfl, .zero _, Kf.out.trans_new HK9.out (fun q e => .inl (by omega))⟩
            · have HT : Hid (takeS (kn : Int) (vn : Int) l = (readN kn vn l, 0)) := Lib.hid (by
                unfold takeS
                rw [HB.out, if_neg (by simp), if_neg (by rw [HL.out]; simp), Int.toNat_natCast, Int.toNat_natCast, HOK.out, heq]
                rfl)
              clear heq hle hcm
              go_wp2_with (first | (refine wpList_load_mid rfl 36 (.tmp 6) rfl ga 0 rfl (ncs (readN kn vn l) q).toList _ GAf.out.range Try.underlying36 rfl (by kernel_rfl) ?_) | (refine nstore_box rfl 36 (.tmp 4) (.tmp 36) rfl (w.heap.size + 1) (ncs (readN kn vn l) q).toList rfl rfl B1f.out rfl (by kernel_rfl) (ncs_one _ _) ?_; intro w9 hb9 hk9; have HB9 := Lib.hid hb9; have HK9 := Lib.hid hk9; clear hb9 hk9) | fail)
              refine bodyPost_ret (v := .tuple #[.agg (ncs (readN kn vn l) q), .int .i64 0]) ?_ rfl ?_
              · exact nresults_two Hr.out _ _ (w.heap.size + 1) _ _ (0, 0) _ rfl HB9.out Try.underlying36 rfl (by kernel_rfl)
              · rw [TakeEnd, HT.out]
                exact ⟨q, rfl, nd_far (m := nd0) (q := pl0) NRf.out HK9.out B1f.out, Kf.out.trans_new HK9.out (fun q e => .inl (by omega))⟩
        · go_simp
          obtain ⟨wc, hwq, hbq, hkq⟩ : ∃ wc, wc = wb.alloc (.cells #[.bool false, .slice none 0 0, .slice none 0 0, .slice none 0 0] 36) ∧ Box wc wb.heap.size 36 #[.bool false, .slice none 0 0, .slice none 0 0, .slice none 0 0] ∧ Kp (fun _ => False) wb wc := ⟨_, rfl, Box.new wb _ _, (Kp.refl _ wb).alloc _⟩
          rw [← hwq]
          obtain ⟨ga, hga⟩ : ∃ ga, wb.heap.size = ga := ⟨_, rfl⟩
          have HGS : Hid (w.heap.size + 1 < ga) := Lib.hid (by have := B1b.out.lt; omega)
          rw [hga] at hbq ⊢
          have GAc := Lib.hid hbq
          have B0c := Lib.hid (B0b.out.kp hkq (fun e => e))
          have B1c := Lib.hid (B1b.out.kp hkq (fun e => e))
          have HRc := Lib.hid (rd_still HRb.out hkq)
          have Kc := Lib.hid (Kb.out.trans hkq)
          have OIc : Hid (Oi 0 (fun _ => False) wc b (l, false)) := Lib.hid (OIb.out.step hkq (fun k e => e.elim) (fun k e => e.elim))
          have HBG : Hid (b < ga) := Lib.hid (by have := OIb.out.nb.2.2; omega)
          clear hwq hbq hkq hga
          refine hK.out _ _ (B0c.out) (fun hHeld7 => ?_)
          clear hK K
          try simp only [Act.put, List.setIfInBounds_toArray, List.set_cons_zero, List.set_cons_succ]
          refine rd 3 (h := fun K hK => ?_)
          go_simp
          have hrc := read_any kn vn l b (fun k => k = b ∨ wc.heap.size ≤ k) wc (.inl rfl) (fun k h => .inr h) OIc.out hkn hvn
          refine hrc.mono ?_
          clear hrc
          rintro e wd ⟨q, rfl, hr, hk⟩
          have B0d := Lib.hid (B0c.out.kp hk (fun e => by have := HBS.out; have := B0c.out.lt; omega))
          have B1d := Lib.hid (B1c.out.kp hk (fun e => by have := HBS.out; have := B1c.out.lt; omega))
          have GAd := Lib.hid (GAc.out.kp hk (fun e => by have h1 := HBG.out; have h2 := GAc.out.lt; omega))
          have NRd := Lib.hid hr
          have Kd : Hid (Kp (fun _ => False) w wd) := Lib.hid (Kc.out.trans_new hk (fun q e => .inl (by have := HBS.out; have := Kc.out.size; omega)))
          have HRd := Lib.hid (rd_still HRW.out Kd.out)
          clear hr hk
          go_wp2_with fail
          refine hK.out _ _ (B0d.out) (fun hHeld5 => ?_)
          clear hK K
          try simp only [Act.put, List.setIfInBounds_toArray, List.set_cons_zero, List.set_cons_succ]
          refine rd 5 (h := fun K hK => ?_)
          rw [if_pos (by rfl)]
          refine nwp_store_box 36 (.tmp 6) (.tmp 20) rfl ga (ncs (readN kn vn l) q).toList rfl rfl GAd.out rfl (by kernel_rfl) (ncs_one _ _) ?_
          intro we hbe hke
          have GAe := Lib.hid hbe
          have B0e := Lib.hid (B0d.out.kp hke (fun e => by have := HGS.out; omega))
          have B1e := Lib.hid (B1d.out.kp hke (fun e => by have := HGS.out; omega))
          have Ke : Hid (Kp (fun _ => False) w we) := Lib.hid (Kd.out.trans_new hke (fun q e => .inl (by have := HGS.out; omega)))
          have HRe := Lib.hid (rd_still HRW.out Ke.out)
          have NRe := Lib.hid (nd_far (m := nd0) (q := pl0) NRd.out hke GAd.out)
          clear hbe hke
          refine hK.out _ _ (B0e.out) (fun hHeld1 => ?_)
          clear hK K
          try simp only [Act.put]
          refine wpAnyH_done (by kernel_rfl) ?_ _
          clear hHeld
          have z0 : World.cell? we ⟨w.heap.size, 0, none⟩ = some (.int .i64 (kn : Int)) := B0e.out.cell 0
          have z1 : World.cell? we ⟨w.heap.size, 1, none⟩ = some (.int .i64 (vn : Int)) := B0e.out.cell 1
          go_wp2_with (first | (refine wpList_load_mid rfl 36 (.tmp 6) rfl ga 0 rfl (ncs (readN kn vn l) q).toList _ GAe.out.range Try.underlying36 rfl (by kernel_rfl) ?_) | fail)
          refine (put_any (kn : Int) (vn : Int) (readN kn vn l) q _ NRe.out).mono ?_
          rintro e wf ⟨A2, c2, rfl, hpg, hle, hcm, hk⟩
          have HPG := Lib.hid hpg
          have B1f := Lib.hid (B1e.out.kp hk (fun e => e))
          have GAf := Lib.hid (GAe.out.kp hk (fun e => e))
          have HRf := Lib.hid (rd_still HRe.out hk)
          have NRf := Lib.hid (NRe.out.still hk)
          have Kf := Lib.hid (Ke.out.trans hk)
          clear hpg hk z0 z1
          rcases hok : okB (kn : Int) (vn : Int) (readN kn vn l) with _ | _
          · have HT : Hid (takeS (kn : Int) (vn : Int) l = (nd0, 3)) := Lib.hid (by
              unfold takeS
              rw [HB.out, if_neg (by simp), if_neg (by rw [HL.out]; simp), Int.toNat_natCast, Int.toNat_natCast, hok]
              rfl)
            clear hok hle hcm
            simp only [Bool.false_eq_true, if_false]
            go_wp2_with (first | (refine nstore_box rfl 36 (.tmp 4) (.tmp 35) rfl (w.heap.size + 1) [.bool false, .slice none 0 0, .slice none 0 0, .slice none 0 0] rfl rfl B1f.out rfl (by kernel_rfl) (ncs_one nd0 pl0) ?_; intro w9 hb9 hk9; have HB9 := Lib.hid hb9; have HK9 := Lib.hid hk9; clear hb9 hk9) | fail)
            refine bodyPost_ret (v := .tuple #[.agg (ncs nd0 pl0), .int .i64 3]) ?_ rfl ?_
            · exact nresults_two Hr.out _ _ (w.heap.size + 1) _ _ (0, 0) _ rfl HB9.out Try.underlying36 rfl (by kernel_rfl)
            · rw [TakeEnd, HT.out]
              exact ⟨pl0, rfl, .zero _, Kf.out.trans_new HK9.out (fun q e => .inl (by omega))⟩
          · have HOK := Lib.hid hok
            rw [hok] at hle
            clear hok
            simp only [if_true] at hle ⊢
            go_wp2_with fail
            refine (nequal_any A A2 c c2 n 512 l (pageL (readN kn vn l)) _ HN.out (page_len HOK.out) HRf.out (HPG.out HOK.out)).mono ?_
            rintro e wg ⟨rfl, rfl⟩
            rcases heq : (l == pageL (readN kn vn l)) with _ | _
            · have HT : Hid (takeS (kn : Int) (vn : Int) l = (nd0, 3)) := Lib.hid (by
                unfold takeS
                rw [HB.out, if_neg (by simp), if_neg (by rw [HL.out]; simp), Int.toNat_natCast, Int.toNat_natCast, HOK.out, heq]
                rfl)
              clear heq hle hcm
              go_wp2_with (first | (refine nstore_box rfl 36 (.tmp 4) (.tmp 35) rfl (w.heap.size + 1) [.bool false, .slice none 0 0, .slice none 0 0, .slice none 0 0] rfl rfl B1f.out rfl (by kernel_rfl) (ncs_one nd0 pl0) ?_; intro w9 hb9 hk9; have HB9 := Lib.hid hb9; have HK9 := Lib.hid hk9; clear hb9 hk9) | fail)
              refine bodyPost_ret (v := .tuple #[.agg (ncs nd0 pl0), .int .i64 3]) ?_ rfl ?_
              · exact nresults_two Hr.out _ _ (w.heap.size + 1) _ _ (0, 0) _ rfl HB9.out Try.underlying36 rfl (by kernel_rfl)
              · rw [TakeEnd, HT.out]
                exact ⟨pl0, rfl, .zero _, Kf.out.trans_new HK9.out (fun q e => .inl (by omega))⟩
            · have HT : Hid (takeS (kn : Int) (vn : Int) l = (readN kn vn l, 0)) := Lib.hid (by
                unfold takeS
                rw [HB.out, if_neg (by simp), if_neg (by rw [HL.out]; simp), Int.toNat_natCast, Int.toNat_natCast, HOK.out, heq]
                rfl)
              clear heq hle hcm
              go_wp2_with (first | (refine wpList_load_mid rfl 36 (.tmp 6) rfl ga 0 rfl (ncs (readN kn vn l) q).toList _ GAf.out.range Try.underlying36 rfl (by kernel_rfl) ?_) | (refine nstore_box rfl 36 (.tmp 4) (.tmp 36) rfl (w.heap.size + 1) (ncs (readN kn vn l) q).toList rfl rfl B1f.out rfl (by kernel_rfl) (ncs_one _ _) ?_; intro w9 hb9 hk9; have HB9 := Lib.hid hb9; have HK9 := Lib.hid hk9; clear hb9 hk9) | fail)
              refine bodyPost_ret (v := .tuple #[.agg (ncs (readN kn vn l) q), .int .i64 0]) ?_ rfl ?_
              · exact nresults_two Hr.out _ _ (w.heap.size + 1) _ _ (0, 0) _ rfl HB9.out Try.underlying36 rfl (by kernel_rfl)
              · rw [TakeEnd, HT.out]
                exact ⟨q, rfl, nd_far (m := nd0) (q := pl0) NRf.out HK9.out B1f.out, Kf.out.trans_new HK9.out (fun q e => .inl (by omega))⟩
      · go_simp
        obtain ⟨wb, hwq, hbq, hkq⟩ : ∃ wb, wb = wa.alloc (.cells #[.bool false, .slice none 0 0, .slice none 0 0, .slice none 0 0] 36) ∧ Box wb wa.heap.size 36 #[.bool false, .slice none 0 0, .slice none 0 0, .slice none 0 0] ∧ Kp (fun _ => False) wa wb := ⟨_, rfl, Box.new wa _ _, (Kp.refl _ wa).alloc _⟩
        rw [← hwq]
        obtain ⟨ga, hga⟩ : ∃ ga, wa.heap.size = ga := ⟨_, rfl⟩
        have HGS : Hid (w.heap.size + 1 < ga) := Lib.hid (by have := B1a.out.lt; omega)
        rw [hga] at hbq ⊢
        have GAb := Lib.hid hbq
        have B0b := Lib.hid (B0a.out.kp hkq (fun e => e))
        have B1b := Lib.hid (B1a.out.kp hkq (fun e => e))
        have HRb := Lib.hid (rd_still HRa.out hkq)
        have Kb := Lib.hid (Ka.out.trans hkq)
        clear hwq hbq hkq hga
        refine hK.out _ _ (B0b.out) (fun hHeld9 => ?_)
        clear hK K
        try simp only [Act.put, List.setIfInBounds_toArray, List.set_cons_zero, List.set_cons_succ]
        refine rd 2 (h := fun K hK => ?_)
        go_simp
        refine (of_any (fun k => wb.heap.size ≤ k) wb (fun k h => h) A n c l HN.out HRb.out HLE.out).mono ?_
        rintro e wc ⟨b, rfl, hbs, ho, hk⟩
        have B0c := Lib.hid (B0b.out.kp hk (fun e => e))
        have B1c := Lib.hid (B1b.out.kp hk (fun e => e))
        have HRc := Lib.hid (rd_still HRb.out hk)
        have Kc := Lib.hid (Kb.out.trans hk)
        have GAc := Lib.hid (GAb.out.kp hk (fun e => e))
        have HBG : Hid (ga < b) := Lib.hid (by have := GAb.out.lt; omega)
        have HBS : Hid (w.heap.size + 1 < b) := Lib.hid (by have := B1b.out.lt; omega)
        have OIc : Hid (Oi 0 (fun _ => False) wc b (l, false)) := Lib.hid ⟨_, ho.old, fun k g => ⟨Nat.zero_le _, g.2, fun e => e⟩⟩
        clear hbs ho hk
        go_wp2_with fail
        refine hK.out _ _ (B0c.out) (fun hHeld2 => ?_)
        clear hK K
        try simp only [Act.put, List.setIfInBounds_toArray, List.set_cons_zero, List.set_cons_succ]
        refine rd 3 (h := fun K hK => ?_)
        go_simp
        have hrc := read_any kn vn l b (fun k => k = b ∨ wc.heap.size ≤ k) wc (.inl rfl) (fun k h => .inr h) OIc.out hkn hvn
        refine hrc.mono ?_
        clear hrc
        rintro e wd ⟨q, rfl, hr, hk⟩
        have B0d := Lib.hid (B0c.out.kp hk (fun e => by have := HBS.out; have := B0c.out.lt; omega))
        have B1d := Lib.hid (B1c.out.kp hk (fun e => by have := HBS.out; have := B1c.out.lt; omega))
        have GAd := Lib.hid (GAc.out.kp hk (fun e => by have h1 := HBG.out; have h2 := GAc.out.lt; omega))
        have NRd := Lib.hid hr
        have Kd : Hid (Kp (fun _ => False) w wd) := Lib.hid (Kc.out.trans_new hk (fun q e => .inl (by have := HBS.out; have := Kc.out.size; omega)))
        have HRd := Lib.hid (rd_still HRW.out Kd.out)
        clear hr hk
        go_wp2_with fail
        refine hK.out _ _ (B0d.out) (fun hHeld3 => ?_)
        clear hK K
        try simp only [Act.put, List.setIfInBounds_toArray, List.set_cons_zero, List.set_cons_succ]
        refine rd 5 (h := fun K hK => ?_)
        rw [if_pos (by rfl)]
        refine nwp_store_box 36 (.tmp 6) (.tmp 20) rfl ga (ncs (readN kn vn l) q).toList rfl rfl GAd.out rfl (by kernel_rfl) (ncs_one _ _) ?_
        intro we hbe hke
        have GAe := Lib.hid hbe
        have B0e := Lib.hid (B0d.out.kp hke (fun e => by have := HGS.out; omega))
        have B1e := Lib.hid (B1d.out.kp hke (fun e => by have := HGS.out; omega))
        have Ke : Hid (Kp (fun _ => False) w we) := Lib.hid (Kd.out.trans_new hke (fun q e => .inl (by have := HGS.out; omega)))
        have HRe := Lib.hid (rd_still HRW.out Ke.out)
        have NRe := Lib.hid (nd_far (m := nd0) (q := pl0) NRd.out hke GAd.out)
        clear hbe hke
        refine hK.out _ _ (B0e.out) (fun hHeld1 => ?_)
        clear hK K
        try simp only [Act.put]
        refine wpAnyH_done (by kernel_rfl) ?_ _
        clear hHeld
        have z0 : World.cell? we ⟨w.heap.size, 0, none⟩ = some (.int .i64 (kn : Int)) := B0e.out.cell 0
        have z1 : World.cell? we ⟨w.heap.size, 1, none⟩ = some (.int .i64 (vn : Int)) := B0e.out.cell 1
        go_wp2_with (first | (refine wpList_load_mid rfl 36 (.tmp 6) rfl ga 0 rfl (ncs (readN kn vn l) q).toList _ GAe.out.range Try.underlying36 rfl (by kernel_rfl) ?_) | fail)
        refine (put_any (kn : Int) (vn : Int) (readN kn vn l) q _ NRe.out).mono ?_
        rintro e wf ⟨A2, c2, rfl, hpg, hle, hcm, hk⟩
        have HPG := Lib.hid hpg
        have B1f := Lib.hid (B1e.out.kp hk (fun e => e))
        have GAf := Lib.hid (GAe.out.kp hk (fun e => e))
        have HRf := Lib.hid (rd_still HRe.out hk)
        have NRf := Lib.hid (NRe.out.still hk)
        have Kf := Lib.hid (Ke.out.trans hk)
        clear hpg hk z0 z1
        rcases hok : okB (kn : Int) (vn : Int) (readN kn vn l) with _ | _
        · have HT : Hid (takeS (kn : Int) (vn : Int) l = (nd0, 3)) := Lib.hid (by
            unfold takeS
            rw [HB.out, if_neg (by simp), if_neg (by rw [HL.out]; simp), Int.toNat_natCast, Int.toNat_natCast, hok]
            rfl)
          clear hok hle hcm
          simp only [Bool.false_eq_true, if_false]
          go_wp2_with (first | (refine nstore_box rfl 36 (.tmp 4) (.tmp 35) rfl (w.heap.size + 1) [.bool false, .slice none 0 0, .slice none 0 0, .slice none 0 0] rfl rfl B1f.out rfl (by kernel_rfl) (ncs_one nd0 pl0) ?_; intro w9 hb9 hk9; have HB9 := Lib.hid hb9; have HK9 := Lib.hid hk9; clear hb9 hk9) | fail)
          refine bodyPost_ret (v := .tuple #[.agg (ncs nd0 pl0), .int .i64 3]) ?_ rfl ?_
          · exact nresults_two Hr.out _ _ (w.heap.size + 1) _ _ (0, 0) _ rfl HB9.out Try.underlying36 rfl (by kernel_rfl)
          · rw [TakeEnd, HT.out]
            exact ⟨pl0, rfl, .zero _, Kf.out.trans_new HK9.out (fun q e => .inl (by omega))⟩
        · have HOK := Lib.hid hok
          rw [hok] at hle
          clear hok
          simp only [if_true] at hle ⊢
          go_wp2_with fail
          refine (nequal_any A A2 c c2 n 512 l (pageL (readN kn vn l)) _ HN.out (page_len HOK.out) HRf.out (HPG.out HOK.out)).mono ?_
          rintro e wg ⟨rfl, rfl⟩
          rcases heq : (l == pageL (readN kn vn l)) with _ | _
          · have HT : Hid (takeS (kn : Int) (vn : Int) l = (nd0, 3)) := Lib.hid (by
              unfold takeS
              rw [HB.out, if_neg (by simp), if_neg (by rw [HL.out]; simp), Int.toNat_natCast, Int.toNat_natCast, HOK.out, heq]
              rfl)
            clear heq hle hcm
            go_wp2_with (first | (refine nstore_box rfl 36 (.tmp 4) (.tmp 35) rfl (w.heap.size + 1) [.bool false, .slice none 0 0, .slice none 0 0, .slice none 0 0] rfl rfl B1f.out rfl (by kernel_rfl) (ncs_one nd0 pl0) ?_; intro w9 hb9 hk9; have HB9 := Lib.hid hb9; have HK9 := Lib.hid hk9; clear hb9 hk9) | fail)
            refine bodyPost_ret (v := .tuple #[.agg (ncs nd0 pl0), .int .i64 3]) ?_ rfl ?_
            · exact nresults_two Hr.out _ _ (w.heap.size + 1) _ _ (0, 0) _ rfl HB9.out Try.underlying36 rfl (by kernel_rfl)
            · rw [TakeEnd, HT.out]
              exact ⟨pl0, rfl, .zero _, Kf.out.trans_new HK9.out (fun q e => .inl (by omega))⟩
          · have HT : Hid (takeS (kn : Int) (vn : Int) l = (readN kn vn l, 0)) := Lib.hid (by
              unfold takeS
              rw [HB.out, if_neg (by simp), if_neg (by rw [HL.out]; simp), Int.toNat_natCast, Int.toNat_natCast, HOK.out, heq]
              rfl)
            clear heq hle hcm
            go_wp2_with (first | (refine wpList_load_mid rfl 36 (.tmp 6) rfl ga 0 rfl (ncs (readN kn vn l) q).toList _ GAf.out.range Try.underlying36 rfl (by kernel_rfl) ?_) | (refine nstore_box rfl 36 (.tmp 4) (.tmp 36) rfl (w.heap.size + 1) (ncs (readN kn vn l) q).toList rfl rfl B1f.out rfl (by kernel_rfl) (ncs_one _ _) ?_; intro w9 hb9 hk9; have HB9 := Lib.hid hb9; have HK9 := Lib.hid hk9; clear hb9 hk9) | fail)
            refine bodyPost_ret (v := .tuple #[.agg (ncs (readN kn vn l) q), .int .i64 0]) ?_ rfl ?_
            · exact nresults_two Hr.out _ _ (w.heap.size + 1) _ _ (0, 0) _ rfl HB9.out Try.underlying36 rfl (by kernel_rfl)
            · rw [TakeEnd, HT.out]
              exact ⟨q, rfl, nd_far (m := nd0) (q := pl0) NRf.out HK9.out B1f.out, Kf.out.trans_new HK9.out (fun q e => .inl (by omega))⟩
    · have hd : ((n : Int) != 512) = true := by have := HN.out; simp; omega
      have HT : Hid (takeS kw vw l = (nd0, 3)) := Lib.hid (by unfold takeS; rw [HB.out, if_neg (by simp), if_pos hl])
      clear hl
      go_enter Try.func19, Try.ntmps19
      go_upto_region 1 with fail
      rw [← HW.out]
      go_wp2_with fail
      refine (may_any _ _ _).mono ?_
      rintro e w1 ⟨rfl, kk⟩
      have K1 := Lib.hid (K0.out.trans kk)
      have B01 := Lib.hid (B0.out.kp kk (fun e => e))
      have B11 := Lib.hid (B1.out.kp kk (fun e => e))
      have HR1 := Lib.hid (rd_still HR.out kk)
      clear kk y0 y1
      rw [HB.out]
      have y2 : World.cell? w1 ⟨w.heap.size + 1, 0, none⟩ = some (.bool false) := B11.out.cell 0
      clear y2
      go_wp2_with (first | (refine nstore_box rfl 36 (.tmp 4) (.tmp 16) rfl (w.heap.size + 1) [.bool false, .slice none 0 0, .slice none 0 0, .slice none 0 0] rfl rfl B11.out rfl (by kernel_rfl) (ncs_one nd0 pl0) ?_; intro w9 hb9 hk9; have HB9 := Lib.hid hb9; have HK9 := Lib.hid hk9; clear hb9 hk9) | fail)
      refine bodyPost_ret (v := .tuple #[.agg (ncs nd0 pl0), .int .i64 3]) ?_ rfl ?_
      · exact nresults_two Hr.out _ _ (w.heap.size + 1) _ _ (0, 0) _ rfl HB9.out Try.underlying36 rfl (by kernel_rfl)
      · rw [TakeEnd, HT.out]
        exact ⟨pl0, rfl, .zero _, K1.out.trans_new HK9.out (fun q e => .inl (by omega))⟩
end Go.Proofs.Ytjapnkpicefadaa
