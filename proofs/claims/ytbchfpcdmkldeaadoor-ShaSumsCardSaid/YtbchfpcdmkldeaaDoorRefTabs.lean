/- What the reference's Tables answers. No condition. -/
import Derived.Test.YtbchfpcdmkldeaaDoorRefTab
namespace Go.Proofs.YtbchfpcdmkldeaaDoor
open Go.RowKit

theorem zeroT : (Tryd.prog.info? 44).map (·.zero) = some (some (.agg (t72 (fun _ => 0)).toArray)) := by kernel_rfl
theorem run_zeroT (w : World) : (zeroValue 44).run Tryd.prog w = .ok (.agg (t72 (fun _ => 0)).toArray) w := by
  obtain ⟨i, hi, hz⟩ := Option.map_eq_some_iff.1 zeroT
  simp [zeroValue, typeInfo, hi, hz]

set_option maxHeartbeats 4000000 in
set_option maxRecDepth 100000 in
theorem tables_any (w : World) :
    Calls Tryd.prog 16 #[] w fun e w' => e = .returned (.agg (t72 tabN).toArray) ∧ Kp (fun _ => False) w w' := by
  have Hr : Hid (Tryd.f16.results = #[.cell 0 44]) := Lib.hid (by kernel_rfl)
  have hzt := run_zeroT
  obtain ⟨Z, hZ⟩ : ∃ Z, (t72 (fun _ => 0)).toArray = Z := ⟨_, rfl⟩
  rw [hZ] at hzt
  have HZ := Lib.hid hZ
  clear hZ
  go_enter Tryd.func16, Tryd.ntmps16
  go_wp2_with fail
  have hb0 := (Box.new w 44 Z).alloc (.cells Z 44)
  have hb1 := Box.new (w.alloc (.cells Z 44)) 44 Z
  have k0 := ((Kp.refl (fun _ => False) w).alloc (.cells Z 44)).alloc (.cells Z 44)
  rw [World.size_alloc] at hb1
  have hsz : ((w.alloc (.cells Z 44)).alloc (.cells Z 44)).heap.size = w.heap.size + 2 := by simp
  generalize (w.alloc (.cells Z 44)).alloc (.cells Z 44) = W0 at *
  rw [← HZ.out] at hb0 hb1
  rw [← tst_start] at hb1
  have B0 := Lib.hid hb0
  have B1 := Lib.hid hb1
  have K0 := Lib.hid k0
  clear hb0 hb1 k0
  refine (primes_any W0).mono ?_
  rintro e y ⟨A, c, rfl, hown, ky⟩
  have Hown := Lib.hid hown
  have B0y := Lib.hid (B0.out.kp ky (fun h => h))
  have B1y := Lib.hid (B1.out.kp ky (fun h => h))
  have K0y := Lib.hid (K0.out.trans ky)
  have hgl := own_formP hown (by decide)
  obtain ⟨g, cap, hv, hg0, hglt, hcap⟩ := hgl
  injection hv with hA _ hc
  subst hA
  subst hc
  clear hown ky B0 B1 K0
  go_wp2_with fail
  go_loopw [3] (fun i wr => ∃ k : Nat, k ≤ 64 ∧ i = .int .i64 k ∧ Box wr (w.heap.size + 1) 44 (t72 (tst k)).toArray ∧ Kp (fun q => q = w.heap.size + 1) y wr) (fun i _ => 64 - (intOf i).toNat)
  case atStart => exact ⟨0, by omega, rfl, B1y.out, Kp.refl _ _⟩
  case round =>
    obtain ⟨k, hk, rfl, hbx, hkp⟩ := hrel
    have Hbx := Lib.hid hbx
    have Hkp := Lib.hid hkp
    clear hbx hkp
    by_cases hlt : k < 64
    · have hkI : (k : Int) < 64 := by omega
      have hcell : wr.cell? ⟨g, k, none⟩ = some (.int .u64 ((primesL.getD k 0 : Nat) : Int)) := by
        rw [Hkp.out.cell (p := ⟨g, k, none⟩) hglt (by simp only; omega), Hown.out.cellAt k (by omega)]
        have hl : primesL.length = 64 := rfl
        simp [c64, List.getD_eq_getElem?_getD, hl, hlt]
      have hps := primes_small ⟨k, hlt⟩
      simp only at hps
      have hr3 := Lib.hid (root_any (primesL.getD k 0) 3 wr hps (.inr rfl))
      have hwq := Lib.hid (fun v (hv : Kp (fun _ => False) wr v) => (Hbx.out.kp hv (fun h => h)))
      have hck := t72_cell Hbx.out k (by omega)
      by_cases h8 : k < 8
      · have h8I : (k : Int) < 8 := by omega
        have hst := tst_both k h8
        have Hst := Lib.hid hst
        clear hst
        have hr2 := Lib.hid (fun v => root_any (primesL.getD k 0) 2 v hps (.inl rfl))
        generalize primesL.getD k 0 = p at *
        generalize rootOf p 3 = r3 at *
        generalize rootOf p 2 = r2 at *
        go_wp2_with fail
        refine hr3.out.mono ?_
        rintro e y1 ⟨rfl, k1⟩
        have hb1 := hwq.out y1 k1
        have hc1 := t72_cell hb1 k (by omega)
        have hf1 := hb1.free k
        have hp1 := Lib.hid (hb1.put k (.int .u32 ((r3 : Nat) : Int)))
        rw [t72_set] at hp1
        have hk1 := Lib.hid ((Hkp.out.trans (k1.mono fun _ _ h => h.elim)).setCell (p := ⟨w.heap.size + 1, k, none⟩) (.inr rfl) (.int .u32 ((r3 : Nat) : Int)))
        have hcell1 : (y1.setCell ⟨w.heap.size + 1, k, none⟩ (.int .u32 ((r3 : Nat) : Int))).cell? ⟨g, k, none⟩ = some (.int .u64 ((p : Nat) : Int)) := by
          rw [hk1.out.cell (p := ⟨g, k, none⟩) hglt (by simp only; omega), ← Hkp.out.cell (p := ⟨g, k, none⟩) hglt (by simp only; omega)]
          exact hcell
        clear k1 hb1 hcell hck
        go_wp2_with fail
        generalize y1.setCell ⟨w.heap.size + 1, k, none⟩ (.int .u32 ((r3 : Nat) : Int)) = yA at *
        refine (hr2.out yA).mono ?_
        rintro e y2 ⟨rfl, k2⟩
        have hb2 := hp1.out.kp k2 (fun h => h)
        have hc2 := t72_cell hb2 (64 + k) (by omega)
        have hf2 := hb2.free (64 + k)
        have hp2 : Hid (Box (y2.setCell ⟨w.heap.size + 1, 64 + k, none⟩ (.int .u32 ((r2 : Nat) : Int))) (w.heap.size + 1) 44 (t72 (tst (k + 1))).toArray) := Lib.hid (by rw [← Hst.out, ← t72_set (fun q => if q = k then r3 else tst k q) (64 + k) r2]; exact hb2.put (64 + k) _)
        have hk2 := Lib.hid ((hk1.out.trans (k2.mono fun _ _ h => h.elim)).setCell (p := ⟨w.heap.size + 1, 64 + k, none⟩) (.inr rfl) (.int .u32 ((r2 : Nat) : Int)))
        clear k2 hb2 hcell1
        go_wp2_with fail
        go_roundw
        case rel => exact ⟨k + 1, by omega, by go_num, hp2.out, hk2.out⟩
        case measure => simp [intOf]; omega
      · have h8I : ¬ ((k : Int) < 8) := by omega
        have Hst := Lib.hid (t72_congr (fun q => if q = k then rootOf (primesL.getD k 0) 3 else tst k q) (tst (k + 1)) (fun q hq => tst_one k (by omega) hlt q hq))
        generalize primesL.getD k 0 = p at *
        generalize rootOf p 3 = r3 at *
        go_wp2_with fail
        refine hr3.out.mono ?_
        rintro e y1 ⟨rfl, k1⟩
        have hb1 := hwq.out y1 k1
        have hc1 := t72_cell hb1 k (by omega)
        have hf1 := hb1.free k
        have hp1 : Hid (Box (y1.setCell ⟨w.heap.size + 1, k, none⟩ (.int .u32 ((r3 : Nat) : Int))) (w.heap.size + 1) 44 (t72 (tst (k + 1))).toArray) := Lib.hid (by rw [← Hst.out, ← t72_set (tst k) k r3]; exact hb1.put k _)
        have hk1 := Lib.hid ((Hkp.out.trans (k1.mono fun _ _ h => h.elim)).setCell (p := ⟨w.heap.size + 1, k, none⟩) (.inr rfl) (.int .u32 ((r3 : Nat) : Int)))
        clear k1 hb1 hcell hck
        go_wp2_with fail
        go_roundw
        case rel => exact ⟨k + 1, by omega, by go_num, hp1.out, hk1.out⟩
        case measure => simp [intOf]; omega
    · obtain rfl : k = 64 := by omega
      have hbl := Hbx.out
      rw [t72_congr (tst 64) tabN tst_last] at hbl
      have hb0 := Lib.hid (B0y.out.kp Hkp.out (by omega))
      have hdone : Hid (Kp (fun _ => False) w (wr.setCells w.heap.size 0 (t72 tabN).toArray.toList)) := Lib.hid (Kp.setCells _ _ _ (K0y.out.trans_new Hkp.out (fun q hq => .inl (by omega))) (.inl (Nat.le_refl _)))
      have hbox : Hid (Box (wr.setCells w.heap.size 0 (t72 tabN).toArray.toList) w.heap.size 44 (t72 tabN).toArray) := Lib.hid (hb0.out.write (by rw [List.toList_toArray, t72_length, t72_length]))
      have Hbl := Lib.hid hbl
      clear hbl
      generalize htt : t72 tabN = tt at *
      have Htt := Lib.hid htt
      have htl : Hid (tt.length = 72) := Lib.hid (by rw [← htt, t72_length])
      have hto : Hid (∀ v ∈ tt, v.oneCell' = true) := Lib.hid (by rw [← htt]; exact t72_one _)
      have hti : Hid ((Tryd.prog.info? 44).map (·.size) = some tt.length) := Lib.hid (by rw [← htt]; exact infoT' _)
      clear htt
      go_wp2_with (first
        | (refine wpList_load_mid rfl _ (.tmp 1) rfl (w.heap.size + 1) 0 rfl tt _ ?c1 Tryd.underlying44 rfl ?c2 ?_)
        | (refine wpList_store_mid rfl _ (.tmp 0) (.tmp 27) rfl w.heap.size 0 tt.toArray rfl rfl ?c3 ?c4 ?c5 ?_))
      case c1 => exact Hbl.out.range'
      case c2 => first | exact hti.out | exact Option.map_eq_some_iff.1 hti.out
      case c3 =>
        have e : (t72 (fun _ => 0)).toArray.size = 72 := by rw [List.size_toArray, t72_length]
        have hth := hb0.out.there
        rw [e] at hth
        first | (rw [htl.out]; exact hth) | (rw [show tt.toArray.size = 72 by rw [List.size_toArray, htl.out]]; exact hth)
      case c4 => first | exact hti.out | exact Option.map_eq_some_iff.1 hti.out
      case c5 => first | exact hto.out | exact all_oneCell_toArray hto.out
      refine bodyPost_ret (v := .agg tt.toArray) ?_ rfl ⟨by rw [Htt.out], hdone.out⟩
      exact results_cell_row Hr.out _ _ w.heap.size _ _ (0, 0) _ rfl hbox.out Tryd.underlying44 rfl (by rw [hti.out]; rfl)
end Go.Proofs.YtbchfpcdmkldeaaDoor
