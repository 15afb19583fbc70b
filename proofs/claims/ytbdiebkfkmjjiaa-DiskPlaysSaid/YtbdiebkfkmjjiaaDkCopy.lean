/- A copy of a disk: alike in all, in blocks of its own. No condition but the disk's own. -/
import Derived.Test.YtbdiebkfkmjjiaaDkCopyA
namespace Go.Proofs.Ytbdiebkfkmjjiaa
open Go.RowKit Go.Maps

theorem zeroDk : ∃ zc : Array Value, (∀ w, (zeroValue 65).run Try.prog w = .ok (.agg zc) w) ∧ zc.size = 8 ∧ (Try.prog.info? 65).map (·.size) = some 8 ∧ zc.all (·.oneCell') = true := zero_row _ _ (by kernel_rfl)
theorem bcs_one' (l : List (List UInt8)) : ∀ u ∈ onCells l, u.oneCell' = true := fun u hu => by
  obtain ⟨x, _, hx⟩ := List.mem_flatMap.1 hu
  exact bcs_one x u hx
theorem waitCells_one (l : List (Nat × List UInt8)) : ∀ u ∈ waitCells l, u.oneCell' = true := fun u hu => by
  obtain ⟨x, _, hx⟩ := List.mem_flatMap.1 hu
  rcases List.mem_append.1 hx with h | h
  · exact bcs_one x.2 u h
  · rw [List.mem_singleton.1 h]; rfl
set_option maxRecDepth 100000 in
set_option maxHeartbeats 2000000 in
theorem copy_any {F : Nat → Prop} {w : World} {b : Nat} {d : Dm} (hD : Dsk F w b d) :
    Calls Try.prog 10 #[.pointer (some ⟨b, 0, none⟩)] w fun e w' => ∃ c, e = .returned (.pointer (some ⟨c, 0, none⟩)) ∧ Dsk (fun k => w.heap.size ≤ k) w' c d ∧ Kp (fun _ => False) w w' := by
  obtain ⟨zd, zd1, zd2, zd3, zd4⟩ := zeroDk
  obtain ⟨vs, vw, gm, h, _⟩ := hD
  obtain ⟨As, cs, hvs, _⟩ : ∃ As cs, vs = .slice As d.on.length cs ∧ True := by
    obtain ⟨_, A, cap, hv, _⟩ := RdR.of_own h.st
    exact ⟨A, cap, hv, trivial⟩
  obtain ⟨Aw, cw, hvw, _⟩ : ∃ Aw cw, vw = .slice Aw d.wait.length cw ∧ True := by
    obtain ⟨_, A, cap, hv, _⟩ := RdR.of_own h.wt
    exact ⟨A, cap, hv, trivial⟩
  subst hvs
  subst hvw
  have h1 : ∀ v ∈ (dcs d (.slice As d.on.length cs) (.slice Aw d.wait.length cw) gm).toList, v.oneCell' = true := fun v hv => by
    simp only [dcs, List.mem_cons, List.not_mem_nil, or_false] at hv
    rcases hv with rfl | rfl | rfl | rfl | rfl | rfl | rfl | rfl <;> rfl
  have hfew := h.ok.few
  have hwl := h.ok.waits
  have H := Lib.hid h
  have H1 := Lib.hid h1
  clear h h1
  go_enter Try.func10, Try.ntmps10
  go_upto_region 4 with (first | (refine wpList_load_mid rfl 65 (.tmp 7) rfl b 0 rfl (dcs d (.slice As d.on.length cs) (.slice Aw d.wait.length cw) gm).toList _ (Box.range' (L := (dcs d (.slice As d.on.length cs) (.slice Aw d.wait.length cw) gm).toList) H.out.box) Try.underlying65 rfl zd3 ?_) | (refine wpList_store_box rfl 65 (.tmp 3) (.tmp 8) rfl w.heap.size (dcs d (.slice As d.on.length cs) (.slice Aw d.wait.length cw) gm).toList rfl rfl (Box.new _ _ _) (by rw [zd2]; rfl) zd3 H1.out ?_; intro w1 hb1 hk1) | fail)
  have k1 : Kp (fun _ => False) w w1 := ((Kp.refl _ w).alloc _).trans_new hk1 (fun k e => .inl (by omega))
  have D1 := Lib.hid (H.out.still k1)
  have B1 := Lib.hid hb1
  have K1 := Lib.hid k1
  have e1 : w1.cell? ⟨b, 0, none⟩ = some (.slice As d.on.length cs) := D1.out.box.cell 0
  clear hb1 hk1 k1
  go_wp2_with fail
  refine (clone_s D1.out.st hfew (bcs_one' _)).mono ?_
  rintro e w2 ⟨v1, rfl, ho1, k2⟩
  have b2 := B1.out.kp k2 (fun h => h)
  have y2 : w2.cell? ⟨w.heap.size, 0, none⟩ = some (.slice As d.on.length cs) := b2.cell 0
  have f2 := b2.free 0
  have D2 := Lib.hid (D1.out.still k2)
  have B2 := Lib.hid b2
  have O1 := Lib.hid ho1
  have K2 := Lib.hid (K1.out.trans k2)
  clear e1 b2 ho1 k2
  obtain ⟨A1, c1, hv1, _⟩ : ∃ A1 c1, v1 = .slice A1 d.on.length c1 ∧ True := by
    obtain ⟨_, A, cap, hv, _⟩ := RdR.of_own O1.out
    exact ⟨A, cap, hv, trivial⟩
  subst hv1
  go_upto_region 5 with fail
  have ge : w.heap.size ≤ w1.heap.size := K1.out.size
  have b3 := B2.out.put 0 (.slice A1 d.on.length c1)
  have k3 := K2.out.setCell (p := ⟨w.heap.size, 0, none⟩) (.inl (Nat.le_refl _)) (.slice A1 d.on.length c1)
  have o1 := own_kp O1.out (Kp.one w2 w.heap.size 0 (.slice A1 d.on.length c1)) (fun q e1 e2 => by
    subst e2
    exact B2.out.own_ne O1.out (by decide) e1)
  have d3 := H.out.still k3
  generalize w2.setCell ⟨w.heap.size, 0, none⟩ (.slice A1 d.on.length c1) = w3 at *
  have B3 := Lib.hid b3
  have O3 := Lib.hid o1
  have K3 := Lib.hid k3
  have D3 := Lib.hid d3
  have e1 : w3.cell? ⟨b, 1, none⟩ = some (.slice Aw d.wait.length cw) := d3.box.cell 1
  clear b3 k3 o1 d3 y2 f2 B2 O1 K2 D2 B1 D1
  go_wp2_with fail
  refine (clone_w D3.out.wt hwl (waitCells_one _)).mono ?_
  rintro e w4 ⟨v2, rfl, ho2, k4⟩
  have b4 := B3.out.kp k4 (fun h => h)
  have y4 : w4.cell? ⟨w.heap.size, 1, none⟩ = some (.slice Aw d.wait.length cw) := b4.cell 1
  have f4 := b4.free 1
  have B4 := Lib.hid b4
  have O4 := Lib.hid (own_kp O3.out k4 (fun _ _ h => h))
  have O2 := Lib.hid ho2
  have K4 := Lib.hid (K3.out.trans k4)
  have G3 := Lib.hid K3.out.size
  clear e1 b4 ho2 k4 D3 B3 O3
  obtain ⟨A2, c2, hv2, _⟩ : ∃ A2 c2, v2 = .slice A2 d.wait.length c2 ∧ True := by
    obtain ⟨_, A, cap, hv, _⟩ := RdR.of_own O2.out
    exact ⟨A, cap, hv, trivial⟩
  subst hv2
  go_upto_region 6 with fail
  have b5 := B4.out.put 1 (.slice A2 d.wait.length c2)
  have k5 := K4.out.setCell (p := ⟨w.heap.size, 1, none⟩) (.inl (Nat.le_refl _)) (.slice A2 d.wait.length c2)
  have o5 := own_kp O4.out (Kp.one w4 w.heap.size 1 (.slice A2 d.wait.length c2)) (fun q e1 e2 => by
    subst e2
    exact B4.out.own_ne O4.out (by decide) e1)
  have o6 := own_kp O2.out (Kp.one w4 w.heap.size 1 (.slice A2 d.wait.length c2)) (fun q e1 e2 => by
    subst e2
    exact B4.out.own_ne O2.out (by decide) e1)
  have d5 := H.out.still k5
  generalize w4.setCell ⟨w.heap.size, 1, none⟩ (.slice A2 d.wait.length c2) = w5 at *
  have B5 := Lib.hid b5
  have O5 := Lib.hid o5
  have O6 := Lib.hid o6
  have K5 := Lib.hid k5
  have D5 := Lib.hid d5
  have e1 : w5.cell? ⟨b, 2, none⟩ = some (.map (some gm)) := d5.box.cell 2
  clear b5 k5 o5 o6 d5 y4 f4 B4 O4 O2 K4
  go_wp2_with fail
  refine (clone_m D5.out.nm).mono ?_
  rintro e w6 ⟨rfl, hm6, k6⟩
  have b6 := B5.out.kp k6 (fun h => h)
  have y6 : w6.cell? ⟨w.heap.size, 2, none⟩ = some (.map (some gm)) := b6.cell 2
  have f6 := b6.free 2
  have B6 := Lib.hid b6
  have O7 := Lib.hid (own_kp O5.out k6 (fun _ _ h => h))
  have O8 := Lib.hid (own_kp O6.out k6 (fun _ _ h => h))
  have M6 := Lib.hid hm6
  have K6 := Lib.hid (K5.out.trans k6)
  have G5 := Lib.hid K5.out.size
  clear e1 b6 hm6 k6 D5 B5 O5 O6
  go_wp2_with fail
  go_ret
  have hne : w5.heap.size ≠ w.heap.size := by
    have := B6.out
    have h1 := M6.out
    intro e
    rw [e] at h1
    obtain ⟨n, D, ⟨es, clock, hm, _⟩, _⟩ := h1
    unfold Box at this
    rw [hm] at this
    cases this
  have kz := Kp.one w6 w.heap.size 2 (.map (some w5.heap.size))
  have b7 := B6.out.put 2 (.map (some w5.heap.size))
  have o7 := own_kp O7.out kz (fun q e1 e2 => by
    subst e2
    exact B6.out.own_ne O7.out (by decide) e1)
  have o8 := own_kp O8.out kz (fun q e1 e2 => by
    subst e2
    exact B6.out.own_ne O8.out (by decide) e1)
  have m7 := M6.out.kp kz hne
  refine ⟨w.heap.size, rfl, ⟨_, _, _, ⟨H.out.ok, b7, own_base o7, own_base o8, m7⟩, ?_⟩, K6.out.setCell (.inl (Nat.le_refl _)) _⟩
  rintro k (rfl | e | e | rfl)
  · exact Nat.le_refl _
  · exact Nat.le_trans ge (o7.lt k e).1
  · exact Nat.le_trans G3.out (o8.lt k e).1
  · exact G5.out
end Go.Proofs.Ytbdiebkfkmjjiaa
