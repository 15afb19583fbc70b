/- The law of pages, part 40 of 55: PgRD PgRE. -/
import Derived.Test.YtepaeliamhjgiaaGreatDoorMu1
import Derived.Test.YtepaeliamhjgiaaGreatDoorMu39
set_option maxHeartbeats 16000000
set_option maxRecDepth 100000
namespace Go.Proofs.YtepaeliamhjgiaaGreatDoor
open Go.RowKit Go.Maps
def Rs.setR (R : Rs) (i : Nat) : Rs := ⟨R.pg, R.chg.put 0 (flipL (R.at_ 0) i)⟩
section
variable {w : World} {a c g : Nat} {R : Rs}
theorem rfree_no (h : Rv w a c g R) (i : Int) (hi : i < 1 \/ (R.pg.length : Int) <= i \/ (0 <= i /\ Bt.bitL (R.at_ 0) i.toNat = false)) :
  Calls Tryz.prog 36 #[.agg (rsV a c g R).toArray, .int .i64 i] w fun e w' => e = .returned (.tuple #[.agg (rsV a c g R).toArray, .int .i64 2]) /\ Kp (fun _ => False) w w' := by
 have Hr : Hid (Tryz.f36.results = #[.cell 4 39, .tmp 5]) := hHd (by kernel_rfl)
 obtain ⟨W, hW, hb0, hb1, hkw⟩ := start_two w a c g R
 have HW := hHd hW
 have KW := hHd hkw
 have hfew := h.few
 have B0 := hHd hb0
 have B1 := hHd hb1
 have HR := hHd (h.still hkw)
 have HANY := hHd h.any
 have y0 : W.cell? ⟨w.heap.size, 0, none⟩ = some (.slice (some ⟨a, 0, none⟩) R.pg.length c) := hb0.cell 0
 have y1 : W.cell? ⟨w.heap.size, 1, none⟩ = some (.map (some g)) := hb0.cell 1
 clear h hb0 hb1 hkw hW
 by_cases h0 : i < 1
 ·clear hi y1
  go_enter Tryz.func36, Tryz.ntmps36
  go_upto_region 1 with fail
  rw [<- HW.out]
  go_wp2_with (first | (refine wpList_load_mid rfl 39 (.tmp 2) rfl w.heap.size 0 rfl (rsV a c g R) _ (Box.range' B0.out) Tryz.underlying39 rfl (infoRs _ _ _ _) ?_) | (refine dwpList_store_box rfl 39 (.tmp 4) (.tmp 21) rfl (w.heap.size + 1) (rsV a c g R) rfl rfl B1.out (by kernel_rfl) (infoRs _ _ _ _) (rsV_one _ _ _ _) ?_; intro w5 hb5 hk5) | fail)
  refine bodyPost_ret (v := .tuple #[.agg (rsV a c g R).toArray, .int .i64 2]) ?_ rfl ⟨rfl, KW.out.trans_new hk5 (fun k e => .inl (by omega))⟩
  exact Bt.bresults_two Hr.out _ _ (w.heap.size + 1) 39 _ (0, 0) _ rfl hb5 Tryz.underlying39 rfl (infoRsa _ _ _ _)
 by_cases h1 : (R.pg.length : Int) <= i
 ·clear hi y1
  go_enter Tryz.func36, Tryz.ntmps36
  go_upto_region 1 with fail
  rw [<- HW.out]
  go_wp2_with (first | (refine wpList_load_mid rfl 39 (.tmp 2) rfl w.heap.size 0 rfl (rsV a c g R) _ (Box.range' B0.out) Tryz.underlying39 rfl (infoRs _ _ _ _) ?_) | (refine dwpList_store_box rfl 39 (.tmp 4) (.tmp 21) rfl (w.heap.size + 1) (rsV a c g R) rfl rfl B1.out (by kernel_rfl) (infoRs _ _ _ _) (rsV_one _ _ _ _) ?_; intro w5 hb5 hk5) | fail)
  refine bodyPost_ret (v := .tuple #[.agg (rsV a c g R).toArray, .int .i64 2]) ?_ rfl ⟨rfl, KW.out.trans_new hk5 (fun k e => .inl (by omega))⟩
  exact Bt.bresults_two Hr.out _ _ (w.heap.size + 1) 39 _ (0, 0) _ rfl hb5 Tryz.underlying39 rfl (infoRsa _ _ _ _)
 ·have hb : Bt.bitL (R.at_ 0) i.toNat = false := by
   rcases hi with hi | hi | hi
   ·omega
   ·omega
   ·exact hi.2
  obtain ⟨k, rfl⟩ : ∃ k : Nat, i = (k : Int) := ⟨i.toNat, by omega⟩
  have hk : k < R.pg.length := by omega
  have hb : Bt.bitL (R.at_ 0) k = false := hb
  have hc := rhas_any HR.out k hk
  rw [hb] at hc
  have HC := hHd hc
  clear hi hb hc hk
  go_enter Tryz.func36, Tryz.ntmps36
  go_upto_region 1 with fail
  rw [<- HW.out]
  go_wp2_with fail
  refine HC.out.mono ?_
  rintro e w1 ⟨rfl, hk1⟩
  have B01 := hHd (B0.out.kp hk1 (fun e => e))
  have B11 := hHd (B1.out.kp hk1 (fun e => e))
  have K1 := hHd (KW.out.trans hk1)
  clear hk1 y0 y1
  go_wp2_with (first | (refine wpList_load_mid rfl 39 (.tmp 2) rfl w.heap.size 0 rfl (rsV a c g R) _ (Box.range' B01.out) Tryz.underlying39 rfl (infoRs _ _ _ _) ?_) | (refine dwpList_store_box rfl 39 (.tmp 4) (.tmp 21) rfl (w.heap.size + 1) (rsV a c g R) rfl rfl B11.out (by kernel_rfl) (infoRs _ _ _ _) (rsV_one _ _ _ _) ?_; intro w5 hb5 hk5) | fail)
  refine bodyPost_ret (v := .tuple #[.agg (rsV a c g R).toArray, .int .i64 2]) ?_ rfl ⟨rfl, K1.out.trans_new hk5 (fun k e => .inl (by omega))⟩
  exact Bt.bresults_two Hr.out _ _ (w.heap.size + 1) 39 _ (0, 0) _ rfl hb5 Tryz.underlying39 rfl (infoRsa _ _ _ _)
theorem rfree_yes (h : Rv w a c g R) (i : Nat) (h1 : 1 <= i) (hi : i < R.pg.length) (hb : Bt.bitL (R.at_ 0) i = true) :
  Calls Tryz.prog 36 #[.agg (rsV a c g R).toArray, .int .i64 i] w fun e w' => ∃ g', e = .returned (.tuple #[.agg (rsV a c g' (R.setR i)).toArray, .int .i64 0]) /\ Rv w' a c g' (R.setR i) /\ w.heap.size <= g' /\ Kp (fun _ => False) w w' := by
 have Hr : Hid (Tryz.f36.results = #[.cell 4 39, .tmp 5]) := hHd (by kernel_rfl)
 obtain ⟨W, hW, hb0, hb1, hkw⟩ := start_two w a c g R
 have HW := hHd hW
 have KW := hHd hkw
 have hfew := h.few
 have HLT := hHd h.lt
 have B0 := hHd hb0
 have B1 := hHd hb1
 have HR := hHd (h.still hkw)
 have HI := hHd hi
 have y0 : W.cell? ⟨w.heap.size, 0, none⟩ = some (.slice (some ⟨a, 0, none⟩) R.pg.length c) := hb0.cell 0
 have y1 : W.cell? ⟨w.heap.size, 1, none⟩ = some (.map (some g)) := hb0.cell 1
 have hc := rhas_any HR.out i hi
 rw [hb] at hc
 have HC := hHd hc
 have d1 : ¬ (i : Int) < 1 := by omega
 have d2 : ¬ (R.pg.length : Int) <= (i : Int) := by omega
 clear h hb0 hb1 hkw hW hi hb h1 hc
 go_enter Tryz.func36, Tryz.ntmps36
 go_upto_region 1 with fail
 rw [<- HW.out]
 go_wp2_with fail
 refine HC.out.mono ?_
 rintro e w1 ⟨rfl, hk1⟩
 have B01 := hHd (B0.out.kp hk1 (fun e => e))
 have B11 := hHd (B1.out.kp hk1 (fun e => e))
 have R1 := hHd (HR.out.still hk1)
 have K1 := hHd (KW.out.trans hk1)
 clear hk1 y0 y1
 go_wp2_with (first | (refine wpList_load_mid rfl 39 (.tmp 2) rfl w.heap.size 0 rfl (rsV a c g R) _ (Box.range' B01.out) Tryz.underlying39 rfl (infoRs _ _ _ _) ?_) | fail)
 refine (rset_any R1.out i HI.out).mono ?_
 rintro e w2 ⟨g', rfl, hr, hg', hk2⟩
 have B2 := hHd (B11.out.kp hk2 (fun e => e))
 have R2 := hHd hr
 have K2 := hHd (K1.out.trans hk2)
 have HG := hHd hg'
 clear hr hk2 hg'
 go_wp2_with (first | (refine dwpList_store_box rfl 39 (.tmp 4) (.tmp 24) rfl (w.heap.size + 1) (rsV a c g' (R.setR i)) rfl rfl B2.out (by kernel_rfl) (infoRs _ _ _ _) (rsV_one _ _ _ _) ?_; intro w5 hb5 hk5) | fail)
 have lg := HG.out
 have lw := K1.out.size
 have lb := B11.out.lt
 obtain ⟨l1, l2⟩ := HLT.out
 refine bodyPost_ret (v := .tuple #[.agg (rsV a c g' (R.setR i)).toArray, .int .i64 0]) ?_ rfl ⟨g', rfl, Rv.kp (R := R.setR i) R2.out hk5 (fun e => by have e : a = w.heap.size + 1 := e; omega) (fun e => by have e : g' = w.heap.size + 1 := e; omega), by omega, K2.out.trans_new hk5 (fun k e => .inl (by omega))⟩
 exact Bt.bresults_two Hr.out _ _ (w.heap.size + 1) 39 _ (0, 0) _ rfl hb5 Tryz.underlying39 rfl (infoRsa _ _ _ _)
theorem ralloc_any (h : Rv w a c g R) (k : Nat) (hlo : ∀ i, i < k -> Bt.bitL (R.at_ 0) i = true) (hk : k < R.pg.length) (hb : Bt.bitL (R.at_ 0) k = false) :
  Calls Tryz.prog 35 #[.agg (rsV a c g R).toArray] w fun e w' => ∃ g', e = .returned (.tuple #[.agg (rsV a c g' ⟨R.pg, (R.setR k).chg.put k zsec⟩).toArray, .int .i64 k]) /\ Rv w' a c g' ⟨R.pg, (R.setR k).chg.put k zsec⟩ /\ w.heap.size <= g' /\ Kp (fun _ => False) w w' := by
 have Hr : Hid (Tryz.f35.results = #[.cell 2 39, .tmp 3]) := hHd (by kernel_rfl)
 obtain ⟨W, hW, hb0, hb1, hkw⟩ := start_two w a c g R
 have HW := hHd hW
 have KW := hHd hkw
 have hfew := h.few
 have HLT := hHd h.lt
 have B0 := hHd hb0
 have B1 := hHd hb1
 have HR := hHd (h.still hkw)
 have HK := hHd hk
 have HLO := hHd hlo
 have HB := hHd hb
 clear h hb0 hb1 hkw hW hk hlo hb
 go_enter Tryz.func35, Tryz.ntmps35
 go_upto_region 1 with fail
 rw [<- HW.out]
 go_wp2_with fail
 go_loopw [4] (fun s4 wr => ∃ j : Nat, j <= k /\ s4 = .int .i64 j /\ Kp (fun _ => False) W wr) (fun s4 _ => R.pg.length - (Go.RowKit.intOf s4).toNat)
 case atStart => exact ⟨0, Nat.zero_le _, rfl, Kp.refl _ _⟩
 case round =>
  obtain ⟨j, hj, rfl, hkr⟩ := hrel
  have RR := hHd (HR.out.still hkr)
  have B0r := hHd (B0.out.kp hkr (fun e => e))
  have B1r := hHd (B1.out.kp hkr (fun e => e))
  have y0 : wr.cell? ⟨w.heap.size, 0, none⟩ = some (.slice (some ⟨a, 0, none⟩) R.pg.length c) := B0r.out.cell 0
  have hjl : j < R.pg.length := by have := HK.out; omega
  have HC := hHd (rhas_any RR.out j hjl)
  have KR := hHd hkr
  clear hkr
  go_wp2_with (first | (refine wpList_load_mid rfl 39 (.tmp 1) rfl w.heap.size 0 rfl (rsV a c g R) _ (Box.range' B0r.out) Tryz.underlying39 rfl (infoRs _ _ _ _) ?_) | fail)
  refine HC.out.mono ?_
  rintro e w1 ⟨rfl, hk1⟩
  by_cases hjk : j = k
  ·subst hjk
   rw [HB.out]
   have B01 := hHd (B0r.out.kp hk1 (fun e => e))
   have B11 := hHd (B1r.out.kp hk1 (fun e => e))
   have R1 := hHd (RR.out.still hk1)
   have K1 := hHd ((KW.out.trans KR.out).trans hk1)
   have HJL := hHd hjl
   clear hk1 y0 hjl
   go_wp2_with (first | (refine wpList_load_mid rfl 39 (.tmp 1) rfl w.heap.size 0 rfl (rsV a c g R) _ (Box.range' B01.out) Tryz.underlying39 rfl (infoRs _ _ _ _) ?_) | fail)
   refine (rset_any R1.out j HJL.out).mono ?_
   rintro e w2 ⟨g', rfl, hr, hg', hk2⟩
   have B2 := hHd (B11.out.kp hk2 (fun e => e))
   have R2 := hHd (show Rv w2 a c g' (R.setR j) from hr)
   have K2 := hHd (K1.out.trans hk2)
   have HG := hHd hg'
   clear hr hk2 hg'
   go_wp2_with fail
   refine (rzero_any _).mono ?_
   rintro e w3 ⟨rfl, hk3⟩
   have B3 := hHd (B2.out.kp hk3 (fun e => e))
   have R3 := hHd (R2.out.still hk3)
   have K3 := hHd (K2.out.trans hk3)
   clear hk3
   go_wp2_with fail
   refine (rwith_any R3.out j HJL.out zsec zsec_length).mono ?_
   rintro e w4 ⟨g4, rfl, hr, hg', hk4⟩
   have B4 := hHd (B3.out.kp hk4 (fun e => e))
   have R4 := hHd (show Rv w4 a c g4 ⟨R.pg, (R.setR j).chg.put j zsec⟩ from hr)
   have K4 := hHd (K3.out.trans hk4)
   have HG4 := hHd hg'
   clear hr hk4 hg'
   go_wp2_with (first | (refine dwpList_store_box rfl 39 (.tmp 2) (.tmp 21) rfl (w.heap.size + 1) (rsV a c g4 ⟨R.pg, (R.setR j).chg.put j zsec⟩) rfl rfl B4.out (by kernel_rfl) (infoRs _ _ _ _) (rsV_one _ _ _ _) ?_; intro w5 hb5 hk5) | fail)
   have lg := HG4.out
   have lw := K3.out.size
   have lb := B3.out.lt
   obtain ⟨l1, l2⟩ := HLT.out
   refine bodyPost_ret (v := .tuple #[.agg (rsV a c g4 ⟨R.pg, (R.setR j).chg.put j zsec⟩).toArray, .int .i64 j]) ?_ rfl ⟨g4, rfl, R4.out.kp hk5 (fun e => by have e : a = w.heap.size + 1 := e; omega) (fun e => by have e : g4 = w.heap.size + 1 := e; omega), by omega, K4.out.trans_new hk5 (fun k e => .inl (by omega))⟩
   exact Bt.bresults_two Hr.out _ _ (w.heap.size + 1) 39 _ (0, 0) _ rfl hb5 Tryz.underlying39 rfl (infoRsa _ _ _ _)
  ·have hjk2 : j < k := by omega
   rw [HLO.out j hjk2]
   have K1 := hHd (KR.out.trans hk1)
   clear hk1
   go_wp2_with fail
   go_roundw
   case rel => exact ⟨j + 1, by omega, by go_num, K1.out⟩
   case measure => simp [Go.RowKit.intOf]; omega
theorem ralloc_no (h : Rv w a c g R) (hlo : ∀ i, i < R.pg.length -> Bt.bitL (R.at_ 0) i = true) :
  Calls Tryz.prog 35 #[.agg (rsV a c g R).toArray] w fun e w' => e = .returned (.tuple #[.agg (rsV a c g R).toArray, .int .i64 (-1)]) /\ Kp (fun _ => False) w w' := by
 have Hr : Hid (Tryz.f35.results = #[.cell 2 39, .tmp 3]) := hHd (by kernel_rfl)
 obtain ⟨W, hW, hb0, hb1, hkw⟩ := start_two w a c g R
 have HW := hHd hW
 have KW := hHd hkw
 have hfew := h.few
 have B0 := hHd hb0
 have B1 := hHd hb1
 have HR := hHd (h.still hkw)
 have HLO := hHd hlo
 clear h hb0 hb1 hkw hW hlo
 go_enter Tryz.func35, Tryz.ntmps35
 go_upto_region 1 with fail
 rw [<- HW.out]
 go_wp2_with fail
 go_loopw [4] (fun s4 wr => ∃ j : Nat, j <= R.pg.length /\ s4 = .int .i64 j /\ Kp (fun _ => False) W wr) (fun s4 _ => R.pg.length - (Go.RowKit.intOf s4).toNat)
 case atStart => exact ⟨0, Nat.zero_le _, rfl, Kp.refl _ _⟩
 case round =>
  obtain ⟨j, hj, rfl, hkr⟩ := hrel
  have RR := hHd (HR.out.still hkr)
  have B0r := hHd (B0.out.kp hkr (fun e => e))
  have B1r := hHd (B1.out.kp hkr (fun e => e))
  have y0 : wr.cell? ⟨w.heap.size, 0, none⟩ = some (.slice (some ⟨a, 0, none⟩) R.pg.length c) := B0r.out.cell 0
  have KR := hHd hkr
  clear hkr
  by_cases hjl : j < R.pg.length
  ·have hc := rhas_any RR.out j hjl
   rw [HLO.out j hjl] at hc
   have HC := hHd hc
   clear hc
   go_wp2_with (first | (refine wpList_load_mid rfl 39 (.tmp 1) rfl w.heap.size 0 rfl (rsV a c g R) _ (Box.range' B0r.out) Tryz.underlying39 rfl (infoRs _ _ _ _) ?_) | fail)
   refine HC.out.mono ?_
   rintro e w1 ⟨rfl, hk1⟩
   have K1 := hHd (KR.out.trans hk1)
   clear hk1
   go_wp2_with fail
   go_roundw
   case rel => exact ⟨j + 1, by omega, by go_num, K1.out⟩
   case measure => simp [Go.RowKit.intOf]; omega
  ·go_wp2_with (first | (refine wpList_load_mid rfl 39 (.tmp 1) rfl w.heap.size 0 rfl (rsV a c g R) _ (Box.range' B0r.out) Tryz.underlying39 rfl (infoRs _ _ _ _) ?_) | (refine dwpList_store_box rfl 39 (.tmp 2) (.tmp 23) rfl (w.heap.size + 1) (rsV a c g R) rfl rfl B1r.out (by kernel_rfl) (infoRs _ _ _ _) (rsV_one _ _ _ _) ?_; intro w5 hb5 hk5) | fail)
   refine bodyPost_ret (v := .tuple #[.agg (rsV a c g R).toArray, .int .i64 (-1)]) ?_ rfl ⟨rfl, (KW.out.trans KR.out).trans_new hk5 (fun k e => .inl (by omega))⟩
   exact Bt.bresults_two Hr.out _ _ (w.heap.size + 1) 39 _ (0, 0) _ rfl hb5 Tryz.underlying39 rfl (infoRsa _ _ _ _)
end
theorem rrun_append_nil_empty {P : Program} {w : World} (t ty e : TypeId) (i : TypeInfo) (ht : P.underlying t = some (.slice e)) (hi : P.info? e = some i) (cap : Nat) :
  (Builtin.append_ #[t, t] ty #[.slice none 0 0, .slice none 0 cap]).run P w = .ok (.slice none 0 0) w := by
 simp [Builtin.append_, run_underlying ht, sizeOf, typeInfo, hi, Builtin.lenOf, Builtin.firstCells]
theorem rwpList_append_rdr {P : Program} {w : World} {ops : Array Oper} {rest : List Oper} {o : Oper} {a : Act} {Q : Exit -> Act -> World -> Prop} (hgd : o.guard = none) (s x : Operand) (t : TypeId)
  (ho : o.op = .call { callee := .builtin .append, args := #[s, x], argTypes := #[t, t] })
  (e : TypeId) (i : TypeInfo) (z : Value) (size bytes : Nat) (ht : P.underlying t = some (.slice e)) (hi : P.info? e = some i) (hz : i.zero = some z)
  (hsize : i.size = size) (hby : i.bytes = bytes) (hzs : z.cells.size = size) (hsz : 0 < size)
  (v : Value) (n : Nat) (xs : List Value) (hs : a.eval s = .slice none 0 0) (hx : a.eval x = v) (hr : RdR w e size v n xs) (h1 : ∀ u ∈ xs, u.oneCell' = true)
  (h63 : n <= maxLen) (hbytes : n * bytes <= 140737488355328)
  (h : ∀ v' w', w'.ownsRow w.heap.size e size v' n xs -> w.grownBy w' none -> wpList P ops Q rest (a.put o.dst v') w') : wpList P ops Q (o :: rest) a w := by
 obtain ⟨hl, A, cap, hv, hcap, hc⟩ := hr
 subst hv
 cases A with
 |none =>
  rcases hc with h0 | ⟨b, cur, e1, _⟩
  ·subst h0
   have hxs : xs = [] := List.eq_nil_of_length_eq_zero (by omega)
   subst hxs
   refine wpList_plain hgd fun K hK => ?_
   have hrun := rrun_append_nil_empty (P := P) (w := w) t o.type e i ht hi cap
   unfold Oper.wp
   simp [execOp, ho, resolve, invoke, builtin, hs, hx, hrun, Result.andThen]
   exact hK _ _ (h _ _ (World.ownsRow_nil _ _ _ _) ⟨rfl, rfl, rfl, Nat.le_refl _, fun _ _ _ => rfl⟩)
  ·cases e1
 |some ad =>
  refine wpList_append_own w hgd s x t ho w.heap.size e i z size bytes ht hi hz hsize hby hzs hsz (.slice none 0 0) 0 [] hs (World.ownsRow_nil _ _ _ _) ad n cap xs hx hl (fun j u hj => ?_) h1 (by omega) (by simpa using hbytes) (Nat.le_refl _) (fun v' w' h2 h3 _ => ?_)
  ·rcases hc with h0 | ⟨b, cur, e1, hb, hcur⟩
   ·subst h0
    have hxs : xs = [] := List.eq_nil_of_length_eq_zero (by omega)
    subst hxs
    simp at hj
   ·cases e1
    rw [Addr.add_mid, Nat.zero_add, hb.cell]
    exact hcur j u hj
  ·rw [Nat.zero_add, List.nil_append] at h2
   exact h v' w' h2 h3
def Rs.comK (R : Rs) : Nat -> List (List UInt8)
 |0 => R.pg
 |k + 1 => match R.chg k with
  |some p => (R.comK k).set k p
  |none => R.comK k
theorem comK_length (R : Rs) : ∀ k, (R.comK k).length = R.pg.length
 |0 => rfl
 |k + 1 => by
  have := comK_length R k
  unfold Rs.comK
  cases R.chg k with
  |none => exact this
  |some p => rw [List.length_set]; exact this
theorem comK_get (R : Rs) (i : Nat) (hi : i < R.pg.length) : ∀ k, (R.comK k)[i]? = some (if i < k then R.at_ i else R.pg.getD i [])
 |0 => by
  show R.pg[i]? = _
  rw [if_neg (by omega), List.getD_eq_getElem?_getD, List.getElem?_eq_getElem hi]
  rfl
 |k + 1 => by
  have := comK_get R i hi k
  unfold Rs.comK
  cases hc : R.chg k with
  |none =>
   show (R.comK k)[i]? = _
   rw [this]
   by_cases h : i < k
   ·rw [if_pos h, if_pos (by omega)]
   ·rw [if_neg h]
    by_cases e : i = k
    ·subst e
     rw [if_pos (by omega)]
     unfold Rs.at_
     rw [hc]
     rfl
    ·rw [if_neg (by omega)]
  |some p =>
   show ((R.comK k).set k p)[i]? = _
   by_cases e : i = k
   ·subst e
    rw [List.getElem?_set_self (by rw [comK_length]; exact hi), if_pos (by omega)]
    unfold Rs.at_
    rw [hc]
    rfl
   ·rw [List.getElem?_set_ne (Ne.symm e), this]
    by_cases h : i < k
    ·rw [if_pos h, if_pos (by omega)]
    ·rw [if_neg h, if_neg (by omega)]
def Rs.comR (R : Rs) : Rs := ⟨R.comK R.pg.length, bnone⟩
theorem comR_length (R : Rs) : R.comR.pg.length = R.pg.length := comK_length R _
theorem comR_at (R : Rs) (i : Nat) (hi : i < R.pg.length) : R.comR.at_ i = R.at_ i := by
 have := comK_get R i hi R.pg.length
 rw [if_pos hi] at this
 show (R.comK R.pg.length).getD i [] = _
 rw [List.getD_eq_getElem?_getD, this]
 rfl
def Rowp (w : World) (g : Nat) (l : List (List UInt8)) : Prop := ∃ cur : Array Value, Box w g 9 cur /\ ∀ (j : Nat) (x : Value), (strs l)[j]? = some x -> cur[j]? = some x
section
variable {w w' : World} {g : Nat} {l : List (List UInt8)}
theorem Rowp.kp {S : Nat -> Prop} (h : Rowp w g l) (hk : Kp S w w') (hn : ¬ S g) : Rowp w' g l := by
 obtain ⟨cur, hb, hx⟩ := h
 exact ⟨cur, hb.kp hk hn, hx⟩
theorem Rowp.lt (h : Rowp w g l) : g < w.heap.size := by
 obtain ⟨cur, hb, _⟩ := h
 exact hb.lt
theorem Rowp.cell (h : Rowp w g l) {i : Nat} {p : List UInt8} (hi : l[i]? = some p) : w.cell? ⟨g, i, none⟩ = some (.string ⟨p.toArray⟩) := by
 obtain ⟨cur, hb, hx⟩ := h
 rw [hb.cell]
 refine hx i _ ?_
 unfold strs
 rw [List.getElem?_map, hi]
 rfl
theorem Rowp.free (h : Rowp w g l) (i : Nat) : w.frozen? ⟨g, i, none⟩ = false := by
 obtain ⟨cur, hb, _⟩ := h
 exact hb.free i
theorem Rowp.put (h : Rowp w g l) (k : Nat) (hk : k < l.length) (p : List UInt8) : Rowp (w.setCell ⟨g, k, none⟩ (.string ⟨p.toArray⟩)) g (l.set k p) := by
 obtain ⟨cur, hb, hx⟩ := h
 refine ⟨_, hb.put k (.string ⟨p.toArray⟩), fun j x hj => ?_⟩
 have hs : strs (l.set k p) = (strs l).set k (.string ⟨p.toArray⟩) := by
  unfold strs
  rw [List.map_set]
 rw [hs] at hj
 have hkc : k < cur.size := by
  have h1 : (strs l)[k]? = some (.string ⟨l[k].toArray⟩) := by
   unfold strs
   rw [List.getElem?_map, List.getElem?_eq_getElem hk]
   rfl
  exact (Array.getElem?_eq_some_iff.1 (hx k _ h1)).1
 by_cases e : j = k
 ·subst e
  rw [List.getElem?_set_self (by rw [strs_length]; exact hk)] at hj
  rw [Array.getElem?_setIfInBounds_self_of_lt hkc]
  exact hj
 ·rw [List.getElem?_set_ne (Ne.symm e)] at hj
  rw [Array.getElem?_setIfInBounds_ne (Ne.symm e)]
  exact hx j x hj
theorem Rowp.of_own {base n cap : Nat} (h : w.ownsRow base 9 1 (.slice (some ⟨g, 0, none⟩) n cap) n (strs l)) : Rowp w g l /\ n <= cap := by
 rcases h.2 with ⟨h0, _⟩ | ⟨g', cap', cur, hv, _, hg, hnc, _, hsz, ht⟩
 ·cases h0
 ·injection hv with e1 e2 e3
  injection e1 with e1
  injection e1 with e1
  subst e1 e3
  refine ⟨⟨cur, hg, fun j x hx => ?_⟩, hnc⟩
  rw [<- ht, List.getElem?_take] at hx
  split at hx
  ·simpa using hx
  ·cases hx
end
section
variable {w : World} {a c g : Nat} {R : Rs}
theorem rcommit_any (h : Rv w a c g R) :
  Calls Tryz.prog 30 #[.agg (rsV a c g R).toArray] w fun e w' => ∃ a' c' g', e = .returned (.agg (rsV a' c' g' R.comR).toArray) /\ Rv w' a' c' g' R.comR /\ w.heap.size <= a' /\ w.heap.size <= g' /\ Kp (fun _ => False) w w' := by
 obtain ⟨iS, s1, s2, s3, s4⟩ := strInf
 have Hr : Hid (Tryz.f30.results = #[.cell 2 39]) := hHd (by kernel_rfl)
 obtain ⟨W, hW, hb0, hb1, hkw⟩ := start_two w a c g R
 have HW := hHd hW
 have KW := hHd hkw
 have hfew := h.few
 have hany := h.any
 have HLT := hHd h.lt
 have B0 := hHd hb0
 have B1 := hHd hb1
 have HR := hHd (h.still hkw)
 have HE := hHd h.each
 have y0 : W.cell? ⟨w.heap.size, 0, none⟩ = some (.slice (some ⟨a, 0, none⟩) R.pg.length c) := hb0.cell 0
 clear h hb0 hb1 hkw hW
 go_enter Tryz.func30, Tryz.ntmps30
 go_upto_region 1 with fail
 rw [<- HW.out]
 go_wp2_with (first | (at_builtin; refine rwpList_append_rdr rfl (.const (.slice none 0 0)) (.tmp 8) 36 rfl 9 iS _ 1 16 Tryz.underlying36 s1 s2 s3 s4 rfl (by decide) (.slice (some ⟨a, 0, none⟩) R.pg.length c) R.pg.length (strs R.pg) rfl rfl HR.out.rdr (strs_one _) (by unfold maxLen; omega) (by omega) ?_; intro v3 w3 hown3 hg3; obtain ⟨ga, c3, hv3, hge, hglt⟩ := hown3.form hany; subst hv3; have RO := hHd (Rowp.of_own hown3); have k3 := (Kp.refl (fun _ => False) W).grown hg3 (fun k e => by cases e); have K3 := hHd k3; have HGA := hHd hge; have HGL := hHd hglt; clear hown3 hg3 k3 hge hglt) | fail)
 clear y0 s1 s2 s3 s4
 have R3 := hHd (HR.out.still K3.out)
 have B03 := hHd (B0.out.kp K3.out (fun e => e))
 have B13 := hHd (B1.out.kp K3.out (fun e => e))
 have LB := hHd B1.out.lt
 go_loopw [4] (fun s4 wr => ∃ k : Nat, k <= R.pg.length /\ s4 = .int .i64 k /\ Rowp wr ga (R.comK k) /\ Kp (fun q => q = ga) w3 wr) (fun s4 _ => R.pg.length - (Go.RowKit.intOf s4).toNat)
 case atStart => exact ⟨0, Nat.zero_le _, rfl, RO.out.1, Kp.refl _ _⟩
 case round =>
  obtain ⟨k, hk, rfl, hro, hkr⟩ := hrel
  have na : ¬ a = ga := by have := HLT.out.1; have := HGA.out; have := KW.out.size; omega
  have ng : ¬ g = ga := by have := HLT.out.2; have := HGA.out; have := KW.out.size; omega
  have n0 : ¬ w.heap.size = ga := by have := HGA.out; have := LB.out; omega
  have n1 : ¬ w.heap.size + 1 = ga := by have := HGA.out; have := LB.out; omega
  have RR := hHd (R3.out.kp hkr na ng)
  have B0r := hHd (B03.out.kp hkr n0)
  have B1r := hHd (B13.out.kp hkr n1)
  have y0 : wr.cell? ⟨w.heap.size, 0, none⟩ = some (.slice (some ⟨a, 0, none⟩) R.pg.length c) := B0r.out.cell 0
  have y1 : wr.cell? ⟨w.heap.size, 1, none⟩ = some (.map (some g)) := B0r.out.cell 1
  have RO2 := hHd hro
  have KR := hHd hkr
  clear hro hkr na ng n0 n1
  by_cases hlt : k < R.pg.length
  ·have HK63 := hHd (show k < 9223372036854775808 by omega)
   have HLK := hHd hlt
   obtain ⟨q, hq⟩ : ∃ q, (R.comK k)[k]? = some q := ⟨_, List.getElem?_eq_getElem (by rw [comK_length]; exact hlt)⟩
   have yq := RO2.out.cell hq
   have fq := RO2.out.free k
   clear hq
   go_wp2_with (first | (refine wpList_lookSt rfl (.tmp 18) (.tmp 19) rfl rfl RR.out.ch k HK63.out rfl ?_ ?_) | fail)
   ·intro hn t
    have HN := hHd hn
    clear hn yq fq
    go_wp2_with fail
    go_roundw
    case rel => exact ⟨k + 1, by omega, by go_num, by
     show Rowp wr ga (match R.chg k with | some p => (R.comK k).set k p | none => R.comK k)
     rw [HN.out]
     exact RO2.out, KR.out⟩
    case measure => simp [Go.RowKit.intOf]; omega
   ·intro p hp
    have HP := hHd hp
    clear hp
    go_wp2_with fail
    go_roundw
    case rel => exact ⟨k + 1, by omega, by go_num, by
     have := RO2.out.put k (by rw [comK_length]; exact HLK.out) p
     show Rowp _ ga (match R.chg k with | some p => (R.comK k).set k p | none => R.comK k)
     rw [HP.out]
     exact this, KR.out.trans (Kp.one wr ga k _)⟩
    case measure => simp [Go.RowKit.intOf]; omega
  ·have hkn : k = R.pg.length := by omega
   have RO3 := hHd (show Rowp wr ga R.comR.pg by
    have := RO2.out
    rw [hkn] at this
    exact this)
   have hmm := @run_makeMap Tryz.prog
   clear hkn hk
   go_wp2_with (first | (refine dwpList_store_box rfl 39 (.tmp 2) (.tmp 30) rfl (w.heap.size + 1) (rsV ga c3 wr.heap.size R.comR) rfl (by show Value.agg #[.slice (some ⟨ga, 0, none⟩) R.pg.length c3, .map (some wr.heap.size)] = Value.agg #[.slice (some ⟨ga, 0, none⟩) R.comR.pg.length c3, .map (some wr.heap.size)]; rw [comR_length]) (B1r.out.alloc _) (by kernel_rfl) (infoRs _ _ _ _) (rsV_one _ _ _ _) ?_; intro w5 hb5 hk5) | fail)
   have lw := KW.out.size
   have lb := LB.out
   have l3 := K3.out.size
   have l4 := KR.out.size
   have lga := HGA.out
   have ka : Kp (fun _ => False) wr (wr.alloc (.map #[] 0)) := (Kp.refl _ wr).alloc _
   have kall : Kp (fun _ => False) w w5 := (((KW.out.trans K3.out).trans_new KR.out (fun q e => .inl (by have e : q = ga := e; omega))).trans ka).trans_new hk5 (fun q e => .inl (by have e : q = w.heap.size + 1 := e; omega))
   refine bodyPost_ret (v := .agg (rsV ga c3 wr.heap.size R.comR).toArray) ?_ rfl ⟨ga, c3, wr.heap.size, rfl, ⟨((RO3.out.kp ka (fun e => e)).kp hk5 (fun e => by have e : ga = w.heap.size + 1 := e; omega)), by rw [comR_length]; exact RO.out.2, by rw [comR_length]; exact hany, fun p hp => ?_, (Smp.made wr (by rw [comR_length]; exact hfew)).kp hk5 (fun e => by have e : wr.heap.size = w.heap.size + 1 := e; omega)⟩, by omega, by omega, kall⟩
   ·exact results_cell_row Hr.out _ _ (w.heap.size + 1) 39 _ (0, 0) _ rfl hb5 Tryz.underlying39 rfl (infoRsa _ _ _ _)
   ·obtain ⟨i, hi⟩ := List.getElem?_of_mem hp
    have hil : i < R.pg.length := by
     have := (List.getElem?_eq_some_iff.1 hi).1
     rw [comR_length] at this
     exact this
    have hg := comK_get R i hil R.pg.length
    rw [if_pos hil] at hg
    have hi : (R.comK R.pg.length)[i]? = some p := hi
    rw [hg] at hi
    injection hi with hi
    rw [<- hi]
    exact RR.out.at_len hil
end
end Go.Proofs.YtepaeliamhjgiaaGreatDoor
