/- A map has what the document says. Conditions: 1 to 1024 pages; the table of the lowest bit is laid. -/
import Derived.Test.YtlhfdoaknfgemaaDoorBtRefB
import Derived.Test.YtlhfdoaknfgemaaDoorBtSetB
import Derived.BigQuiet
import Derived.Deep.QuietTactic
namespace Go.Proofs.YtlhfdoaknfgemaaDoor
open Go.RowKit

/-- A whole variable is read in a region that is quiet. -/
theorem quiet_load_mid {P : Program} {op : Oper} {a : Act} {C : World → Prop} {K : Act → Prop} (ty : TypeId) (x : Operand) (ho : op.op = .load ty x)
    (b o : Nat) (hx : a.eval x = .pointer (some ⟨b, o, none⟩)) (cs : List Value) (d : TypeDesc) (hc : ∀ w, C w → w.rangeAt b o cs)
    (hu : P.underlying ty = some d) (hd : d.isRow = true) (hi : (P.info? ty).map (·.size) = some cs.length)
    (h : K (a.put op.dst (.agg cs.toArray))) : op.quiet P a C K := by
  refine ⟨_, fun w hw => ?_, h⟩
  unfold Oper.quietAt execOp
  simp only [ho, hx, Instr.loadAt, Instr.sureAddr, Sem.run_bind, Sem.run_pure, Result.andThen_ok, run_loadVar_mid w b o ty cs d (hc w hw) hu hd hi]
  exact ⟨rfl, rfl⟩
theorem hasB_in (l : List Bool) (i : Nat) (h : i < l.length) : hasB (fnL l) l.length (i : Int) = l.getD i false := by
  unfold hasB
  rw [pgB_true (by omega) (by omega)]
  rfl
theorem hasB_out (f : Nat → Bool) (n : Nat) (i : Int) (h : i < 0 ∨ (n : Int) ≤ i) : hasB f n i = true := by
  unfold hasB
  rw [pgB_false h]; rfl
set_option maxRecDepth 100000 in
set_option maxHeartbeats 4000000 in
theorem same_any (g c : Nat) (l : List Bool) (w : World) (hm : RdM w g l) (h1 : 1 ≤ l.length) (h2 : l.length ≤ 1024) (tb : Tbl w) :
    Calls Tryd.prog 11 #[.agg (mcs (fnL l) l.length).toArray, .slice (some ⟨g, 0, none⟩) l.length c] w fun e w' => e = .returned (.bool true) ∧ Kp (fun _ => False) w w' := by
  obtain ⟨f, hf⟩ : ∃ f, fnL l = f := ⟨_, rfl⟩
  obtain ⟨n, hn⟩ : ∃ n, l.length = n := ⟨_, rfl⟩
  have hwf := fnL_wf l h2
  obtain ⟨lk, hlk⟩ := least_is f n
  have Hin := Lib.hid (fun i h => hasB_in l i h)
  rw [hf, hn] at Hin
  rw [hf, hn] at hwf ⊢
  rw [hn] at h1 h2
  have HFL : Hid (∀ i, l.getD i false = f i) := Lib.hid (fun i => by rw [← hf]; rfl)
  obtain ⟨W, hW, hb, hkw⟩ : ∃ W, W = w.alloc (.cells (mcs f n).toArray 27) ∧ Mp W w.heap.size f n ∧ Kp (fun _ => False) w W := ⟨_, rfl, Mp.new w f n, (Kp.refl _ w).alloc _⟩
  have HW := Lib.hid hW
  have K := Lib.hid hkw
  have HB := Lib.hid hb
  have HM := Lib.hid (hm.kp hkw (fun h => h))
  have HT := Lib.hid (tb.kp hkw (fun h => h))
  have HN := Lib.hid hn
  have HF := Lib.hid hf
  have HWF := Lib.hid hwf
  have HLK := Lib.hid hlk
  clear hW hkw hb hm tb hn hf hwf hlk
  go_enter Tryd.func11, Tryd.ntmps11
  go_upto_region 1 with fail
  rw [← HW.out]
  go_wp2_with fail
  go_loopw [5, 6] (fun u i wr => ∃ k : Nat, k ≤ n ∧ i = .int .i64 k ∧ u = .int .i64 ((cntF f k : Nat) : Int) ∧ Kp (fun _ => False) W wr)
    (fun _ i _ => n - (intOf i).toNat)
  case atStart => exact ⟨0, Nat.zero_le _, rfl, rfl, Kp.refl _ _⟩
  case round =>
    obtain ⟨k, hk, rfl, rfl, hkw⟩ := hrel
    have HK := Lib.hid hkw
    have HBr := Lib.hid (HB.out.kp hkw (fun h => h))
    have HMr := Lib.hid (HM.out.kp hkw (fun h => h))
    have hcl := cntF_le f k
    have hcs := cntF_one f k
    obtain ⟨cn, hcn⟩ : ∃ cn, cntF f k = cn := ⟨_, rfl⟩
    rw [hcn] at hcl hcs ⊢
    have HCS := Lib.hid hcs
    have hcn2 := hcn
    have HCN2 := Lib.hid hcn2
    clear hkw hcn hcs hcn2
    by_cases hlt : k < n
    · obtain ⟨u, hu⟩ : ∃ u, l.getD k false = u := ⟨_, rfl⟩
      have hhas := Hin.out k hlt
      rw [hu] at hhas
      have hfk : Hid (f k = u) := Lib.hid (by rw [← HFL.out k, hu])
      have H18 : Hid (∀ v, Kp (fun _ => False) wr v → Calls Tryd.prog 18 #[.agg (mcs f n).toArray, .int .i64 k] v fun e w' => e = .returned (.bool u) ∧ Kp (fun _ => False) wr w') := Lib.hid fun v hv => by
        have := has_any f n k v h2
        rw [hhas] at this
        exact this.mono fun e w'' h => ⟨h.1, hv.trans h.2⟩
      have HLD : Hid (∀ v, Kp (fun _ => False) wr v → v.cell? ⟨g, k, none⟩ = some (.bool u)) := Lib.hid fun v hv => by
        rw [(HMr.out.kp hv (fun h => h)).cell k (by rw [HN.out]; exact hlt), hu]
      have HLM : Hid (∀ v, Kp (fun _ => False) wr v → Mp v w.heap.size f n) := Lib.hid fun v hv => HBr.out.kp hv (fun h => h)
      clear hhas hu
      rcases u with _ | _
      · go_upto_region 5 with fail
        refine wp_region_quiet (C := fun v => Kp (fun _ => False) wr v) (by kernel_rfl) (by kernel_rfl) ((Kp.refl _ wr).drew) ?_
        refine wpQuiet_step (fun K hK => ?_)
        rw [if_pos (by rfl)]
        refine quiet_load_mid 27 (.tmp 2) rfl w.heap.size 0 rfl (mcs f n) _ (fun v hv => Mp.range (HLM.out v hv)) Tryd.underlying27 rfl (infoMcs _ _) ?_
        refine hK _ ?_
        clear hK K
        refine wpQuiet_step (fun K hK => ?_)
        go_simp
        refine ⟨_, fun v hv => rfl, hK _ ?_⟩
        clear hK K
        refine wpQuiet_step (fun K hK => ?_)
        go_simp
        refine ⟨_, fun v hv => H18.out v hv, hK _ ?_⟩
        clear hK K
        refine wpQuiet_step (fun K hK => ?_)
        go_simp
        refine ⟨_, fun v hv => rfl, hK _ ?_⟩
        clear hK K
        refine wpQuiet_step (fun K hK => ?_)
        go_simp
        refine ⟨_, fun v hv => rfl, hK _ ?_⟩
        clear hK K
        refine wpQuiet_step (fun K hK => ?_)
        go_simp
        refine ⟨_, fun v hv => rfl, hK _ ?_⟩
        clear hK K
        refine wpQuiet_step (fun K hK => ?_)
        go_simp
        refine ⟨.bool false, fun v hv => by rw [HLD.out v hv]; exact ⟨rfl, rfl⟩, hK _ ?_⟩
        clear hK K
        refine wpQuiet_step (fun K hK => ?_)
        go_simp
        refine ⟨_, fun v hv => rfl, hK _ ?_⟩
        clear hK K
        refine wpQuiet_nil ?_
        intro w2 hw2
        have hc := HLD.out w2 hw2
        have K2 := Lib.hid (HK.out.trans hw2)
        clear hw2
        go_wp2_with fail
        go_roundw
        case rel => exact ⟨k + 1, by omega, by go_num, by rw [HCS.out, hfk.out]; simp, K2.out⟩
        case measure => simp [intOf]; omega
      · go_upto_region 5 with fail
        refine wp_region_quiet (C := fun v => Kp (fun _ => False) wr v) (by kernel_rfl) (by kernel_rfl) ((Kp.refl _ wr).drew) ?_
        refine wpQuiet_step (fun K hK => ?_)
        rw [if_pos (by rfl)]
        refine quiet_load_mid 27 (.tmp 2) rfl w.heap.size 0 rfl (mcs f n) _ (fun v hv => Mp.range (HLM.out v hv)) Tryd.underlying27 rfl (infoMcs _ _) ?_
        refine hK _ ?_
        clear hK K
        refine wpQuiet_step (fun K hK => ?_)
        go_simp
        refine ⟨_, fun v hv => rfl, hK _ ?_⟩
        clear hK K
        refine wpQuiet_step (fun K hK => ?_)
        go_simp
        refine ⟨_, fun v hv => H18.out v hv, hK _ ?_⟩
        clear hK K
        refine wpQuiet_step (fun K hK => ?_)
        go_simp
        refine ⟨_, fun v hv => rfl, hK _ ?_⟩
        clear hK K
        refine wpQuiet_step (fun K hK => ?_)
        go_simp
        refine ⟨_, fun v hv => rfl, hK _ ?_⟩
        clear hK K
        refine wpQuiet_step (fun K hK => ?_)
        go_simp
        refine ⟨_, fun v hv => rfl, hK _ ?_⟩
        clear hK K
        refine wpQuiet_step (fun K hK => ?_)
        go_simp
        refine ⟨.bool true, fun v hv => by rw [HLD.out v hv]; exact ⟨rfl, rfl⟩, hK _ ?_⟩
        clear hK K
        refine wpQuiet_step (fun K hK => ?_)
        go_simp
        refine ⟨_, fun v hv => rfl, hK _ ?_⟩
        clear hK K
        refine wpQuiet_nil ?_
        intro w2 hw2
        have hc := HLD.out w2 hw2
        have K2 := Lib.hid (HK.out.trans hw2)
        clear hw2
        go_wp2_with fail
        go_roundw
        case rel => exact ⟨k + 1, by omega, by go_num, by rw [HCS.out, hfk.out]; go_num, K2.out⟩
        case measure => simp [intOf]; omega
    · obtain rfl : k = n := by omega
      have HT2 := Lib.hid (HT.out.kp HK.out (fun h => h))
      have HCN := HCN2
      have HB0 := HBr
      have HM0 := HMr
      have HT0 := HT2
      have K0 := Lib.hid (K.out.trans HK.out)
      obtain ⟨w0, hw0⟩ : ∃ w0, w0 = wr := ⟨_, rfl⟩
      subst hw0
      clear HCN2 HBr HMr HT2 HB HM HT HW
      by_cases hl : lk < k
      · have HFI := Lib.hid (find_any f k lk w0 HWF.out HLK.out HT0.out)
        rw [if_pos hl, decide_eq_true hl] at HFI
        have HRF : Hid (∀ v, RdM v g l → Calls Tryd.prog 21 #[.slice (some ⟨g, 0, none⟩) k c] v fun e w' => e = .returned (.int .i64 (lk : Int)) ∧ v = w') := Lib.hid (fun v hv => by
          have h9 := rfind_any g c lk l v hv (by rw [HN.out]; exact h2) (by rw [HF.out, HN.out]; exact HLK.out)
          rw [HN.out, if_pos hl] at h9
          exact h9)
        have HU : Hid (∀ v, Calls Tryd.prog 17 #[.agg (mcs f k).toArray] v fun e w' => e = .returned (.int .i64 (cn : Int)) ∧ Kp (fun _ => False) v w') := Lib.hid (fun v => by have h9 := used_any f k v HWF.out; rw [HCN.out] at h9; exact h9)
        have HHm : Hid (∀ v, Calls Tryd.prog 18 #[.agg (mcs f k).toArray, .int .i64 (-1)] v fun e w' => e = .returned (.bool true) ∧ Kp (fun _ => False) v w') := Lib.hid (fun v => by have h9 := has_any f k (-1) v h2; rw [hasB_out f k (-1) (.inl (by omega))] at h9; exact h9)
        have HHk : Hid (∀ v, Calls Tryd.prog 18 #[.agg (mcs f k).toArray, .int .i64 (k : Int)] v fun e w' => e = .returned (.bool true) ∧ Kp (fun _ => False) v w') := Lib.hid (fun v => by have h9 := has_any f k (k : Int) v h2; rw [hasB_out f k (k : Int) (.inr (by omega))] at h9; exact h9)
        have hd0 : decide ((0 : Int) ≤ (lk : Int)) = true := by simp
        clear hl HN HWF HCS hlt
        go_wp2_with (first | (refine wpList_load_mid rfl 27 (.tmp 2) rfl w.heap.size 0 rfl (mcs f k) _ (Mp.range HB0.out) Tryd.underlying27 rfl (infoMca _ _) ?_) | fail)
        refine (HFI.out).mono ?_
        rintro e w1 ⟨rfl, k1⟩
        have K1 := Lib.hid (K0.out.trans k1)
        have HB1 := Lib.hid (HB0.out.kp k1 (fun h => h))
        have HM1 := Lib.hid (HM0.out.kp k1 (fun h => h))
        have HT1 := Lib.hid (HT0.out.kp k1 (fun h => h))
        clear k1
        go_wp2_with fail
        refine (HRF.out w1 HM1.out).mono ?_
        rintro e w' ⟨rfl, rfl⟩
        go_upto_region 11 with fail
        refine wp_region_list ?_
        simp only []
        refine wpList_step (fun K hK => ?_)
        rw [if_pos (by rfl)]
        refine wp_load_mid 27 (.tmp 2) rfl (w.heap.size) 0 rfl (mcs f k) _ (Mp.range HB1.out) Tryd.underlying27 rfl (infoMcs _ _) ?_
        refine hK _ _ ?_
        clear hK K
        refine wpList_step (fun K hK => ?_)
        go_simp
        refine (len_any f k w1).mono ?_
        rintro e w2 ⟨rfl, k2⟩
        have K2 := Lib.hid (K1.out.trans k2)
        have HB2 := Lib.hid (HB1.out.kp k2 (fun h => h))
        clear k2
        go_simp
        refine hK _ _ ?_
        clear hK K
        refine wpList_step (fun K hK => ?_)
        go_simp
        refine hK _ _ ?_
        clear hK K
        refine wpList_step (fun K hK => ?_)
        go_simp
        refine hK _ _ ?_
        clear hK K
        refine wpList_step (fun K hK => ?_)
        go_simp
        refine hK _ _ ?_
        clear hK K
        refine wpList_step (fun K hK => ?_)
        go_simp
        refine hK _ _ ?_
        clear hK K
        refine wpList_step (fun K hK => ?_)
        rw [if_pos (by rfl)]
        refine wp_load_mid 27 (.tmp 2) rfl (w.heap.size) 0 rfl (mcs f k) _ (Mp.range HB2.out) Tryd.underlying27 rfl (infoMcs _ _) ?_
        refine hK _ _ ?_
        clear hK K
        refine wpList_step (fun K hK => ?_)
        go_simp
        refine (HU.out w2).mono ?_
        rintro e w3 ⟨rfl, k3⟩
        have K3 := Lib.hid (K2.out.trans k3)
        have HB3 := Lib.hid (HB2.out.kp k3 (fun h => h))
        clear k3
        go_simp
        refine hK _ _ ?_
        clear hK K
        refine wpList_step (fun K hK => ?_)
        go_simp
        refine hK _ _ ?_
        clear hK K
        refine wpList_step (fun K hK => ?_)
        go_simp
        refine hK _ _ ?_
        clear hK K
        refine wpList_step (fun K hK => ?_)
        go_simp
        refine hK _ _ ?_
        clear hK K
        refine wpList_step (fun K hK => ?_)
        go_simp
        refine hK _ _ ?_
        clear hK K
        refine wpList_step (fun K hK => ?_)
        go_simp
        refine hK _ _ ?_
        clear hK K
        refine wpList_step (fun K hK => ?_)
        go_simp
        refine hK _ _ ?_
        clear hK K
        refine wpList_step (fun K hK => ?_)
        go_simp
        refine hK _ _ ?_
        clear hK K
        refine wpList_step (fun K hK => ?_)
        go_simp
        refine hK _ _ ?_
        clear hK K
        refine wpList_step (fun K hK => ?_)
        go_simp
        refine hK _ _ ?_
        clear hK K
        refine wpList_step (fun K hK => ?_)
        go_simp
        refine hK _ _ ?_
        clear hK K
        refine wpList_step (fun K hK => ?_)
        go_simp
        refine hK _ _ ?_
        clear hK K
        refine wpList_step (fun K hK => ?_)
        go_simp
        refine hK _ _ ?_
        clear hK K
        refine wpList_step (fun K hK => ?_)
        go_simp
        refine hK _ _ ?_
        clear hK K
        refine wpList_step (fun K hK => ?_)
        go_simp
        refine hK _ _ ?_
        clear hK K
        refine wpList_step (fun K hK => ?_)
        go_simp
        refine hK _ _ ?_
        clear hK K
        refine wpList_step (fun K hK => ?_)
        go_simp
        refine hK _ _ ?_
        clear hK K
        refine wpList_step (fun K hK => ?_)
        go_simp
        refine hK _ _ ?_
        clear hK K
        refine wpList_step (fun K hK => ?_)
        go_simp
        refine hK _ _ ?_
        clear hK K
        refine wpList_step (fun K hK => ?_)
        go_simp
        refine hK _ _ ?_
        clear hK K
        refine wpList_step (fun K hK => ?_)
        go_simp
        refine hK _ _ ?_
        clear hK K
        refine wpList_step (fun K hK => ?_)
        go_simp
        refine hK _ _ ?_
        clear hK K
        refine wpList_step (fun K hK => ?_)
        go_simp
        refine hK _ _ ?_
        clear hK K
        refine wpList_step (fun K hK => ?_)
        go_simp
        refine hK _ _ ?_
        clear hK K
        refine wpList_step (fun K hK => ?_)
        go_simp
        refine hK _ _ ?_
        clear hK K
        refine wpList_step (fun K hK => ?_)
        go_simp
        refine hK _ _ ?_
        clear hK K
        refine wpList_step (fun K hK => ?_)
        go_simp
        refine hK _ _ ?_
        clear hK K
        refine wpList_step (fun K hK => ?_)
        rw [if_pos (by rfl)]
        refine wp_load_mid 27 (.tmp 2) rfl (w.heap.size) 0 rfl (mcs f k) _ (Mp.range HB3.out) Tryd.underlying27 rfl (infoMcs _ _) ?_
        refine hK _ _ ?_
        clear hK K
        refine wpList_step (fun K hK => ?_)
        go_simp
        refine (HHm.out w3).mono ?_
        rintro e w4 ⟨rfl, k4⟩
        have K4 := Lib.hid (K3.out.trans k4)
        have HB4 := Lib.hid (HB3.out.kp k4 (fun h => h))
        clear k4
        go_simp
        refine hK _ _ ?_
        clear hK K
        refine wpList_step (fun K hK => ?_)
        go_simp
        refine hK _ _ ?_
        clear hK K
        refine wpList_step (fun K hK => ?_)
        go_simp
        refine hK _ _ ?_
        clear hK K
        refine wpList_step (fun K hK => ?_)
        rw [if_pos (by rfl)]
        refine wp_load_mid 27 (.tmp 2) rfl (w.heap.size) 0 rfl (mcs f k) _ (Mp.range HB4.out) Tryd.underlying27 rfl (infoMcs _ _) ?_
        refine hK _ _ ?_
        clear hK K
        refine wpList_step (fun K hK => ?_)
        go_simp
        refine hK _ _ ?_
        clear hK K
        refine wpList_step (fun K hK => ?_)
        go_simp
        refine hK _ _ ?_
        clear hK K
        refine wpList_step (fun K hK => ?_)
        go_simp
        refine (HHk.out w4).mono ?_
        rintro e w5 ⟨rfl, k5⟩
        have K5 := Lib.hid (K4.out.trans k5)
        have HB5 := Lib.hid (HB4.out.kp k5 (fun h => h))
        clear k5
        go_simp
        refine hK _ _ ?_
        clear hK K
        refine wpList_step (fun K hK => ?_)
        go_simp
        refine hK _ _ ?_
        clear hK K
        refine wpList_step (fun K hK => ?_)
        go_simp
        refine hK _ _ ?_
        clear hK K
        refine wpList_nil ?_
        go_wp2_with fail
        go_ret
        exact ⟨rfl, K5.out⟩
      · have HFI := Lib.hid (find_any f k lk w0 HWF.out HLK.out HT0.out)
        rw [if_neg hl, decide_eq_false hl] at HFI
        have HRF : Hid (∀ v, RdM v g l → Calls Tryd.prog 21 #[.slice (some ⟨g, 0, none⟩) k c] v fun e w' => e = .returned (.int .i64 (-1)) ∧ v = w') := Lib.hid (fun v hv => by
          have h9 := rfind_any g c lk l v hv (by rw [HN.out]; exact h2) (by rw [HF.out, HN.out]; exact HLK.out)
          rw [HN.out, if_neg hl] at h9
          exact h9)
        have HU : Hid (∀ v, Calls Tryd.prog 17 #[.agg (mcs f k).toArray] v fun e w' => e = .returned (.int .i64 (cn : Int)) ∧ Kp (fun _ => False) v w') := Lib.hid (fun v => by have h9 := used_any f k v HWF.out; rw [HCN.out] at h9; exact h9)
        have HHm : Hid (∀ v, Calls Tryd.prog 18 #[.agg (mcs f k).toArray, .int .i64 (-1)] v fun e w' => e = .returned (.bool true) ∧ Kp (fun _ => False) v w') := Lib.hid (fun v => by have h9 := has_any f k (-1) v h2; rw [hasB_out f k (-1) (.inl (by omega))] at h9; exact h9)
        have HHk : Hid (∀ v, Calls Tryd.prog 18 #[.agg (mcs f k).toArray, .int .i64 (k : Int)] v fun e w' => e = .returned (.bool true) ∧ Kp (fun _ => False) v w') := Lib.hid (fun v => by have h9 := has_any f k (k : Int) v h2; rw [hasB_out f k (k : Int) (.inr (by omega))] at h9; exact h9)
        clear hl HN HWF HCS hlt
        go_wp2_with (first | (refine wpList_load_mid rfl 27 (.tmp 2) rfl w.heap.size 0 rfl (mcs f k) _ (Mp.range HB0.out) Tryd.underlying27 rfl (infoMca _ _) ?_) | fail)
        refine (HFI.out).mono ?_
        rintro e w1 ⟨rfl, k1⟩
        have K1 := Lib.hid (K0.out.trans k1)
        have HB1 := Lib.hid (HB0.out.kp k1 (fun h => h))
        have HM1 := Lib.hid (HM0.out.kp k1 (fun h => h))
        have HT1 := Lib.hid (HT0.out.kp k1 (fun h => h))
        clear k1
        go_wp2_with fail
        refine (HRF.out w1 HM1.out).mono ?_
        rintro e w' ⟨rfl, rfl⟩
        go_upto_region 11 with fail
        refine wp_region_list ?_
        simp only []
        refine wpList_step (fun K hK => ?_)
        rw [if_pos (by rfl)]
        refine wp_load_mid 27 (.tmp 2) rfl (w.heap.size) 0 rfl (mcs f k) _ (Mp.range HB1.out) Tryd.underlying27 rfl (infoMcs _ _) ?_
        refine hK _ _ ?_
        clear hK K
        refine wpList_step (fun K hK => ?_)
        go_simp
        refine (len_any f k w1).mono ?_
        rintro e w2 ⟨rfl, k2⟩
        have K2 := Lib.hid (K1.out.trans k2)
        have HB2 := Lib.hid (HB1.out.kp k2 (fun h => h))
        clear k2
        go_simp
        refine hK _ _ ?_
        clear hK K
        refine wpList_step (fun K hK => ?_)
        go_simp
        refine hK _ _ ?_
        clear hK K
        refine wpList_step (fun K hK => ?_)
        go_simp
        refine hK _ _ ?_
        clear hK K
        refine wpList_step (fun K hK => ?_)
        go_simp
        refine hK _ _ ?_
        clear hK K
        refine wpList_step (fun K hK => ?_)
        go_simp
        refine hK _ _ ?_
        clear hK K
        refine wpList_step (fun K hK => ?_)
        rw [if_pos (by rfl)]
        refine wp_load_mid 27 (.tmp 2) rfl (w.heap.size) 0 rfl (mcs f k) _ (Mp.range HB2.out) Tryd.underlying27 rfl (infoMcs _ _) ?_
        refine hK _ _ ?_
        clear hK K
        refine wpList_step (fun K hK => ?_)
        go_simp
        refine (HU.out w2).mono ?_
        rintro e w3 ⟨rfl, k3⟩
        have K3 := Lib.hid (K2.out.trans k3)
        have HB3 := Lib.hid (HB2.out.kp k3 (fun h => h))
        clear k3
        go_simp
        refine hK _ _ ?_
        clear hK K
        refine wpList_step (fun K hK => ?_)
        go_simp
        refine hK _ _ ?_
        clear hK K
        refine wpList_step (fun K hK => ?_)
        go_simp
        refine hK _ _ ?_
        clear hK K
        refine wpList_step (fun K hK => ?_)
        go_simp
        refine hK _ _ ?_
        clear hK K
        refine wpList_step (fun K hK => ?_)
        go_simp
        refine hK _ _ ?_
        clear hK K
        refine wpList_step (fun K hK => ?_)
        go_simp
        refine hK _ _ ?_
        clear hK K
        refine wpList_step (fun K hK => ?_)
        go_simp
        refine hK _ _ ?_
        clear hK K
        refine wpList_step (fun K hK => ?_)
        go_simp
        refine hK _ _ ?_
        clear hK K
        refine wpList_step (fun K hK => ?_)
        go_simp
        refine hK _ _ ?_
        clear hK K
        refine wpList_step (fun K hK => ?_)
        go_simp
        refine hK _ _ ?_
        clear hK K
        refine wpList_step (fun K hK => ?_)
        go_simp
        refine hK _ _ ?_
        clear hK K
        refine wpList_step (fun K hK => ?_)
        go_simp
        refine hK _ _ ?_
        clear hK K
        refine wpList_step (fun K hK => ?_)
        go_simp
        refine hK _ _ ?_
        clear hK K
        refine wpList_step (fun K hK => ?_)
        go_simp
        refine hK _ _ ?_
        clear hK K
        refine wpList_step (fun K hK => ?_)
        go_simp
        refine hK _ _ ?_
        clear hK K
        refine wpList_step (fun K hK => ?_)
        go_simp
        refine hK _ _ ?_
        clear hK K
        refine wpList_step (fun K hK => ?_)
        go_simp
        refine hK _ _ ?_
        clear hK K
        refine wpList_step (fun K hK => ?_)
        go_simp
        refine hK _ _ ?_
        clear hK K
        refine wpList_step (fun K hK => ?_)
        go_simp
        refine hK _ _ ?_
        clear hK K
        refine wpList_step (fun K hK => ?_)
        go_simp
        refine hK _ _ ?_
        clear hK K
        refine wpList_step (fun K hK => ?_)
        go_simp
        refine hK _ _ ?_
        clear hK K
        refine wpList_step (fun K hK => ?_)
        go_simp
        refine hK _ _ ?_
        clear hK K
        refine wpList_step (fun K hK => ?_)
        go_simp
        refine hK _ _ ?_
        clear hK K
        refine wpList_step (fun K hK => ?_)
        go_simp
        refine hK _ _ ?_
        clear hK K
        refine wpList_step (fun K hK => ?_)
        go_simp
        refine hK _ _ ?_
        clear hK K
        refine wpList_step (fun K hK => ?_)
        go_simp
        refine hK _ _ ?_
        clear hK K
        refine wpList_step (fun K hK => ?_)
        go_simp
        refine hK _ _ ?_
        clear hK K
        refine wpList_step (fun K hK => ?_)
        rw [if_pos (by rfl)]
        refine wp_load_mid 27 (.tmp 2) rfl (w.heap.size) 0 rfl (mcs f k) _ (Mp.range HB3.out) Tryd.underlying27 rfl (infoMcs _ _) ?_
        refine hK _ _ ?_
        clear hK K
        refine wpList_step (fun K hK => ?_)
        go_simp
        refine (HHm.out w3).mono ?_
        rintro e w4 ⟨rfl, k4⟩
        have K4 := Lib.hid (K3.out.trans k4)
        have HB4 := Lib.hid (HB3.out.kp k4 (fun h => h))
        clear k4
        go_simp
        refine hK _ _ ?_
        clear hK K
        refine wpList_step (fun K hK => ?_)
        go_simp
        refine hK _ _ ?_
        clear hK K
        refine wpList_step (fun K hK => ?_)
        go_simp
        refine hK _ _ ?_
        clear hK K
        refine wpList_step (fun K hK => ?_)
        rw [if_pos (by rfl)]
        refine wp_load_mid 27 (.tmp 2) rfl (w.heap.size) 0 rfl (mcs f k) _ (Mp.range HB4.out) Tryd.underlying27 rfl (infoMcs _ _) ?_
        refine hK _ _ ?_
        clear hK K
        refine wpList_step (fun K hK => ?_)
        go_simp
        refine hK _ _ ?_
        clear hK K
        refine wpList_step (fun K hK => ?_)
        go_simp
        refine hK _ _ ?_
        clear hK K
        refine wpList_step (fun K hK => ?_)
        go_simp
        refine (HHk.out w4).mono ?_
        rintro e w5 ⟨rfl, k5⟩
        have K5 := Lib.hid (K4.out.trans k5)
        have HB5 := Lib.hid (HB4.out.kp k5 (fun h => h))
        clear k5
        go_simp
        refine hK _ _ ?_
        clear hK K
        refine wpList_step (fun K hK => ?_)
        go_simp
        refine hK _ _ ?_
        clear hK K
        refine wpList_step (fun K hK => ?_)
        go_simp
        refine hK _ _ ?_
        clear hK K
        refine wpList_nil ?_
        go_wp2_with fail
        go_ret
        exact ⟨rfl, K5.out⟩
end Go.Proofs.YtlhfdoaknfgemaaDoor
