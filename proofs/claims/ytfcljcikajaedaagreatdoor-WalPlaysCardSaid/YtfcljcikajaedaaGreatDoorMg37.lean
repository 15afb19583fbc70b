/- The document's own disk: a new one. Condition: at most 4096 sectors. -/
import Derived.Test.YtfcljcikajaedaaGreatDoorMg3
import Derived.Test.YtfcljcikajaedaaGreatDoorMg30
import Derived.Test.YtfcljcikajaedaaGreatDoorMg14
import Derived.Test.YtfcljcikajaedaaGreatDoorMg36
namespace Go.Proofs.YtfcljcikajaedaaGreatDoor
open Go.RowKit Go.Maps

theorem strs_rep (k : Nat) : strs (List.replicate (k + 1) zsec) = strs (List.replicate k zsec) ++ [.string ⟨zsec.toArray⟩] := by simp [strs, List.replicate_succ']
set_option maxRecDepth 100000 in
set_option maxHeartbeats 4000000 in
theorem rnew_any (w : World) (n : Nat) (hn : n ≤ 4096) :
    Calls Tryz.prog 23 #[.int .i64 n] w fun e w' => ∃ vo', e = .returned (.agg (rcs (newDm n) vo' (.slice none 0 0))) ∧ Rf w' vo' (.slice none 0 0) (newDm n) ∧ Kp (fun _ => False) w w' := by
  have Hr : Hid (Tryz.f23.results = #[.cell 2 37]) := Lib.hid (by kernel_rfl)
  obtain ⟨i, i1, i2, i3, i4⟩ := u8Info
  obtain ⟨iS, s1, s2, s3, s4⟩ := strInf
  have hmk : ∀ W : World, (Instr.makeSlice 31 (.int .i64 512) (.int .i64 512)).run Tryz.prog W = .ok (.slice (some ⟨W.heap.size, 0, none⟩) 512 512) (W.alloc (.cells (bcs zsec).toArray 5)) := fun W => by
    have := run_make (P := Tryz.prog) W 31 _ i _ Tryz.underlying31 i1 i2 .i64 .i64 512 512 (by decide) (by decide) (by rw [i4]; decide) (by decide)
    have e : madeCells (Value.int .u8 0).cells ((512 : Int).toNat * i.size) = (bcs zsec).toArray := by
      rw [i3, bcs_zsec]
      exact dmade_rep 1 512 (by decide) (.int .u8 0)
    rw [e] at this
    exact this
  obtain ⟨W, hW, hb0, hb1, hkw⟩ : ∃ W, W = ((w.alloc (.cells #[.slice none 0 0, .slice none 0 0, .bool false, .int .i64 0, .string ⟨#[]⟩, .int .u64 0] 37)).alloc (.cells #[.slice none 0 0, .slice none 0 0, .bool false, .int .i64 0, .string ⟨#[]⟩, .int .u64 0] 37)) ∧ Box W w.heap.size 37 #[.slice none 0 0, .slice none 0 0, .bool false, .int .i64 0, .string ⟨#[]⟩, .int .u64 0] ∧ Box W (w.heap.size + 1) 37 #[.slice none 0 0, .slice none 0 0, .bool false, .int .i64 0, .string ⟨#[]⟩, .int .u64 0] ∧ Kp (fun _ => False) w W := by
    obtain ⟨W, h1, h2, h3, h4⟩ := start2 w #[.slice none 0 0, .slice none 0 0, .bool false, .int .i64 0, .string ⟨#[]⟩, .int .u64 0]
    exact ⟨W, h1, h2, h3, h4⟩
  have HW := Lib.hid hW
  have B0 := Lib.hid hb0
  have B1 := Lib.hid hb1
  have KW := Lib.hid hkw
  clear hb0 hb1 hkw hW i1 i2 i3 i4
  go_enter Tryz.func23, Tryz.ntmps23
  go_wp2_with (first | (rw [← HW.out]; refine dwpList_store_box rfl 37 (.tmp 3) (.tmp 5) rfl (w.heap.size + 1) #[.slice none 0 0, .slice none 0 0, .bool false, .int .i64 (-1), .string ⟨#[]⟩, .int .u64 0].toList rfl rfl B1.out rfl infoRef (by intro v hv; simp at hv; rcases hv with rfl | rfl | rfl | rfl | rfl <;> rfl) ?_; intro w2 hb2 hk2; have HB2 := Lib.hid hb2; have HBR2 := Lib.hid (B0.out.kp hk2 (fun e => by omega)); have HK2 := Lib.hid (KW.out.trans_new hk2 (fun k e => .inl (by omega))); clear hb2 hk2) | fail)
  go_loopw [4] (fun i wr => ∃ (k : Nat) (vk : Value), k ≤ n ∧ i = .int .i64 k ∧ Box wr (w.heap.size + 1) 37 (rcs (newDm k) vk (.slice none 0 0)) ∧ Box wr w.heap.size 37 #[.slice none 0 0, .slice none 0 0, .bool false, .int .i64 0, .string ⟨#[]⟩, .int .u64 0] ∧ wr.ownsRow w.heap.size 9 1 vk k (strs (List.replicate k zsec)) ∧ Kp (fun _ => False) w wr)
    (fun i _ => n - (intOf i).toNat)
  case atStart => exact ⟨0, .slice none 0 0, Nat.zero_le _, rfl, HB2.out, HBR2.out, World.ownsRow_nil _ _ _ _, HK2.out⟩
  case round =>
    obtain ⟨k, vk, hk, rfl, hb0, hb1, hown, hkw⟩ := hrel
    have BK := Lib.hid hb0
    have BR := Lib.hid hb1
    have HO := Lib.hid hown
    have HK := Lib.hid hkw
    clear hb0 hb1 hown hkw
    by_cases hlt : k < n
    · have hcv : (convert 31 9 (.slice (some ⟨wr.heap.size, 0, none⟩) 512 512)).run Tryz.prog (wr.alloc (.cells (bcs zsec).toArray 5)).drew = .ok (.string ⟨zsec.toArray⟩) (wr.alloc (.cells (bcs zsec).toArray 5)).drew := by
        have hb : Box (wr.drew.alloc (.cells (bcs zsec).toArray 5)) wr.heap.size 5 (bcs zsec).toArray := Box.new wr.drew _ _
        have hr : Rd (wr.drew.alloc (.cells (bcs zsec).toArray 5)) (some ⟨wr.heap.size, 0, none⟩) zsec := .inr ⟨_, 0, rfl, fun j u hj => by rw [hb.cell, Nat.zero_add]; simp [bcs_get, hj]⟩
        have := hr.text (P := Tryz.prog) 31 9 5 512 Tryz.underlying31 Tryz.underlying5 Tryz.underlying9
        rwa [zsec_length] at this
      go_upto_region 5 with fail
      refine wp_region_held_drew (S := fun _ => True) (by kernel_rfl) trivial (fun hHeld => ?_)
      have k1 := (Kp.refl (fun _ => False) wr).drew.alloc (.cells (bcs zsec).toArray 5)
      have k2 := k1.alloc (.cells #[.string ⟨zsec.toArray⟩] 9)
      have y0 := BK.out.cell 0
      have y1 : (wr.alloc (.cells (bcs zsec).toArray 5)).cell? ⟨w.heap.size + 1, 0, none⟩ = some vk := (BK.out.kp k1 (fun h => h)).cell 0
      have y2 : ((wr.alloc (.cells (bcs zsec).toArray 5)).alloc (.cells #[.string ⟨zsec.toArray⟩] 9)).cell? ⟨w.heap.size + 1, 0, none⟩ = some vk := (BK.out.kp k2 (fun h => h)).cell 0
      have K2 := Lib.hid k2
      have hnb : ((wr.drew.alloc (.cells (bcs zsec).toArray 5)).alloc (.cells #[.string ⟨zsec.toArray⟩] 9)).heap[wr.heap.size + 1]? = some (.cells #[.string ⟨zsec.toArray⟩] 9) := by
        have := heap_alloc_new (wr.drew.alloc (.cells (bcs zsec).toArray 5)) (.cells #[.string ⟨zsec.toArray⟩] 9)
        rwa [World.size_alloc] at this
      have HNB := Lib.hid hnb
      clear k1 k2 hnb
      refine tk 0 (h := ?_)
      refine wpAnyH_ready (rs := [1, 2]) (by kernel_rfl) (by simp) ?_
      refine rdc 1 (h := fun K hK => ?_) (hs := rdc 2 (h := fun K hK => ?_) (hs := AllReadyH.nil))
      · go_simp
        refine hK.out _ _ trivial (fun hHeld1 => ?_)
        clear hK K
        try simp only [Act.put, List.setIfInBounds_toArray, List.set_cons_zero, List.set_cons_succ]
        refine rd 2 (h := fun K hK => ?_)
        go_simp
        refine hK.out _ _ trivial (fun hHeld2 => ?_)
        clear hK K
        try simp only [Act.put, List.setIfInBounds_toArray, List.set_cons_zero, List.set_cons_succ]
        refine rd 3 (h := fun K hK => ?_)
        go_simp
        refine hK.out _ _ trivial (fun hHeld3 => ?_)
        clear hK K
        try simp only [Act.put, List.setIfInBounds_toArray, List.set_cons_zero, List.set_cons_succ]
        refine rd 4 (h := fun K hK => ?_)
        go_simp
        refine hK.out _ _ trivial (fun hHeld4 => ?_)
        clear hK K
        try simp only [Act.put, List.setIfInBounds_toArray, List.set_cons_zero, List.set_cons_succ]
        refine rd 5 (h := fun K hK => ?_)
        refine wp_append_own _ (.tmp 12) (.tmp 15) 33 rfl w.heap.size 9 iS (.string ⟨#[]⟩) 1 16 Tryz.underlying33 s1 s2 s3 s4 rfl (by decide) vk k (strs (List.replicate k zsec)) rfl ((HO.out.drew.alloc _).alloc _) ⟨wr.heap.size + 1, 0, none⟩ 1 1 [.string ⟨zsec.toArray⟩] rfl rfl (World.news_of_block HNB.out) (by simp [Value.oneCell']) (by unfold maxLen; omega) (by omega) (Nat.le_trans HK.out.size K2.out.size) ?_
        intro v3 w3 hown3 hg3 hnn
        obtain ⟨g3, c3, rfl, _, _⟩ := hown3.form (by omega)
        have k3 := (K2.out.of_false (S := fun q => vk.ownBlock = some q)).grown hg3 (fun q e => .inr e)
        have hne : vk.ownBlock ≠ some (w.heap.size + 1) := BK.out.own_ne HO.out (by decide)
        have hne0 : vk.ownBlock ≠ some w.heap.size := BR.out.own_ne HO.out (by decide)
        have q3 := (BK.out.kp k3 hne).cell 0
        have f3 := (BK.out.kp k3 hne).free 0
        have HO3 := Lib.hid hown3
        have K3 := Lib.hid k3
        have HNE := Lib.hid hne
        have HNE0 := Lib.hid hne0
        clear hown3 hg3 k3 hne hne0 hnn
        refine hK.out _ _ trivial (fun hHeld5 => ?_)
        clear hK K
        try simp only [Act.put, List.setIfInBounds_toArray, List.set_cons_zero, List.set_cons_succ]
        refine rd 6 (h := fun K hK => ?_)
        go_simp
        refine hK.out _ _ trivial (fun hHeld6 => ?_)
        clear hK K
        try simp only [Act.put, List.setIfInBounds_toArray, List.set_cons_zero, List.set_cons_succ]
        refine rd 7 (h := fun K hK => ?_)
        go_simp
        refine hK.out _ _ trivial (fun hHeld7 => ?_)
        clear hK K
        try simp only [Act.put]
        refine wpAnyH_done (by kernel_rfl) ?_ _
        go_wp2_with fail
        go_roundw
        case rel =>
          refine ⟨k + 1, _, by omega, by go_num, (BK.out.kp K3.out HNE.out).put 0 _, (BR.out.kp K3.out HNE0.out).far (by simp) _, ?_, ?_⟩
          · rw [strs_rep]
            refine down_kp HO3.out (Kp.one _ _ _ _) (fun q e1 e2 => ?_)
            subst e2
            exact (BK.out.kp K3.out HNE.out).own_ne HO3.out (by decide) e1
          · exact (HK.out.trans_new K3.out (fun q e => .inl ((HO.out.lt q e).1))).setCell (.inl (Nat.le_succ _)) _
        case measure => simp [intOf]; omega
      · go_simp
        refine hK.out _ _ trivial (fun hHeld8 => ?_)
        clear hK K
        try simp only [Act.put, List.setIfInBounds_toArray, List.set_cons_zero, List.set_cons_succ]
        refine wpAnyH_ready (rs := [1, 3]) (by kernel_rfl) (by simp) ?_
        refine rdc 1 (h := fun K hK => ?_) (hs := rdc 3 (h := fun K hK => ?_) (hs := AllReadyH.nil))
        · go_simp
          refine hK.out _ _ trivial (fun hHeld9 => ?_)
          clear hK K
          try simp only [Act.put, List.setIfInBounds_toArray, List.set_cons_zero, List.set_cons_succ]
          refine rd 3 (h := fun K hK => ?_)
          go_simp
          refine hK.out _ _ trivial (fun hHeld10 => ?_)
          clear hK K
          try simp only [Act.put, List.setIfInBounds_toArray, List.set_cons_zero, List.set_cons_succ]
          refine rd 4 (h := fun K hK => ?_)
          go_simp
          refine hK.out _ _ trivial (fun hHeld11 => ?_)
          clear hK K
          try simp only [Act.put, List.setIfInBounds_toArray, List.set_cons_zero, List.set_cons_succ]
          refine rd 5 (h := fun K hK => ?_)
          refine wp_append_own _ (.tmp 12) (.tmp 15) 33 rfl w.heap.size 9 iS (.string ⟨#[]⟩) 1 16 Tryz.underlying33 s1 s2 s3 s4 rfl (by decide) vk k (strs (List.replicate k zsec)) rfl ((HO.out.drew.alloc _).alloc _) ⟨wr.heap.size + 1, 0, none⟩ 1 1 [.string ⟨zsec.toArray⟩] rfl rfl (World.news_of_block HNB.out) (by simp [Value.oneCell']) (by unfold maxLen; omega) (by omega) (Nat.le_trans HK.out.size K2.out.size) ?_
          intro v3 w3 hown3 hg3 hnn
          obtain ⟨g3, c3, rfl, _, _⟩ := hown3.form (by omega)
          have k3 := (K2.out.of_false (S := fun q => vk.ownBlock = some q)).grown hg3 (fun q e => .inr e)
          have hne : vk.ownBlock ≠ some (w.heap.size + 1) := BK.out.own_ne HO.out (by decide)
          have hne0 : vk.ownBlock ≠ some w.heap.size := BR.out.own_ne HO.out (by decide)
          have q3 := (BK.out.kp k3 hne).cell 0
          have f3 := (BK.out.kp k3 hne).free 0
          have HO3 := Lib.hid hown3
          have K3 := Lib.hid k3
          have HNE := Lib.hid hne
          have HNE0 := Lib.hid hne0
          clear hown3 hg3 k3 hne hne0 hnn
          refine hK.out _ _ trivial (fun hHeld12 => ?_)
          clear hK K
          try simp only [Act.put, List.setIfInBounds_toArray, List.set_cons_zero, List.set_cons_succ]
          refine rd 6 (h := fun K hK => ?_)
          go_simp
          refine hK.out _ _ trivial (fun hHeld13 => ?_)
          clear hK K
          try simp only [Act.put, List.setIfInBounds_toArray, List.set_cons_zero, List.set_cons_succ]
          refine rd 7 (h := fun K hK => ?_)
          go_simp
          refine hK.out _ _ trivial (fun hHeld14 => ?_)
          clear hK K
          try simp only [Act.put]
          refine wpAnyH_done (by kernel_rfl) ?_ _
          go_wp2_with fail
          go_roundw
          case rel =>
            refine ⟨k + 1, _, by omega, by go_num, (BK.out.kp K3.out HNE.out).put 0 _, (BR.out.kp K3.out HNE0.out).far (by simp) _, ?_, ?_⟩
            · rw [strs_rep]
              refine down_kp HO3.out (Kp.one _ _ _ _) (fun q e1 e2 => ?_)
              subst e2
              exact (BK.out.kp K3.out HNE.out).own_ne HO3.out (by decide) e1
            · exact (HK.out.trans_new K3.out (fun q e => .inl ((HO.out.lt q e).1))).setCell (.inl (Nat.le_succ _)) _
          case measure => simp [intOf]; omega
        · go_simp
          refine hK.out _ _ trivial (fun hHeld15 => ?_)
          clear hK K
          try simp only [Act.put, List.setIfInBounds_toArray, List.set_cons_zero, List.set_cons_succ]
          refine wpAnyH_ready (rs := [1, 4]) (by kernel_rfl) (by simp) ?_
          refine rdc 1 (h := fun K hK => ?_) (hs := rdc 4 (h := fun K hK => ?_) (hs := AllReadyH.nil))
          · go_simp
            refine hK.out _ _ trivial (fun hHeld16 => ?_)
            clear hK K
            try simp only [Act.put, List.setIfInBounds_toArray, List.set_cons_zero, List.set_cons_succ]
            refine rd 4 (h := fun K hK => ?_)
            go_simp
            refine hK.out _ _ trivial (fun hHeld17 => ?_)
            clear hK K
            try simp only [Act.put, List.setIfInBounds_toArray, List.set_cons_zero, List.set_cons_succ]
            refine rd 5 (h := fun K hK => ?_)
            refine wp_append_own _ (.tmp 12) (.tmp 15) 33 rfl w.heap.size 9 iS (.string ⟨#[]⟩) 1 16 Tryz.underlying33 s1 s2 s3 s4 rfl (by decide) vk k (strs (List.replicate k zsec)) rfl ((HO.out.drew.alloc _).alloc _) ⟨wr.heap.size + 1, 0, none⟩ 1 1 [.string ⟨zsec.toArray⟩] rfl rfl (World.news_of_block HNB.out) (by simp [Value.oneCell']) (by unfold maxLen; omega) (by omega) (Nat.le_trans HK.out.size K2.out.size) ?_
            intro v3 w3 hown3 hg3 hnn
            obtain ⟨g3, c3, rfl, _, _⟩ := hown3.form (by omega)
            have k3 := (K2.out.of_false (S := fun q => vk.ownBlock = some q)).grown hg3 (fun q e => .inr e)
            have hne : vk.ownBlock ≠ some (w.heap.size + 1) := BK.out.own_ne HO.out (by decide)
            have hne0 : vk.ownBlock ≠ some w.heap.size := BR.out.own_ne HO.out (by decide)
            have q3 := (BK.out.kp k3 hne).cell 0
            have f3 := (BK.out.kp k3 hne).free 0
            have HO3 := Lib.hid hown3
            have K3 := Lib.hid k3
            have HNE := Lib.hid hne
            have HNE0 := Lib.hid hne0
            clear hown3 hg3 k3 hne hne0 hnn
            refine hK.out _ _ trivial (fun hHeld18 => ?_)
            clear hK K
            try simp only [Act.put, List.setIfInBounds_toArray, List.set_cons_zero, List.set_cons_succ]
            refine rd 6 (h := fun K hK => ?_)
            go_simp
            refine hK.out _ _ trivial (fun hHeld19 => ?_)
            clear hK K
            try simp only [Act.put, List.setIfInBounds_toArray, List.set_cons_zero, List.set_cons_succ]
            refine rd 7 (h := fun K hK => ?_)
            go_simp
            refine hK.out _ _ trivial (fun hHeld20 => ?_)
            clear hK K
            try simp only [Act.put]
            refine wpAnyH_done (by kernel_rfl) ?_ _
            go_wp2_with fail
            go_roundw
            case rel =>
              refine ⟨k + 1, _, by omega, by go_num, (BK.out.kp K3.out HNE.out).put 0 _, (BR.out.kp K3.out HNE0.out).far (by simp) _, ?_, ?_⟩
              · rw [strs_rep]
                refine down_kp HO3.out (Kp.one _ _ _ _) (fun q e1 e2 => ?_)
                subst e2
                exact (BK.out.kp K3.out HNE.out).own_ne HO3.out (by decide) e1
              · exact (HK.out.trans_new K3.out (fun q e => .inl ((HO.out.lt q e).1))).setCell (.inl (Nat.le_succ _)) _
            case measure => simp [intOf]; omega
          · go_simp
            refine hK.out _ _ trivial (fun hHeld21 => ?_)
            clear hK K
            try simp only [Act.put, List.setIfInBounds_toArray, List.set_cons_zero, List.set_cons_succ]
            refine rd 1 (h := fun K hK => ?_)
            go_simp
            refine hK.out _ _ trivial (fun hHeld22 => ?_)
            clear hK K
            try simp only [Act.put, List.setIfInBounds_toArray, List.set_cons_zero, List.set_cons_succ]
            refine rd 5 (h := fun K hK => ?_)
            refine wp_append_own _ (.tmp 12) (.tmp 15) 33 rfl w.heap.size 9 iS (.string ⟨#[]⟩) 1 16 Tryz.underlying33 s1 s2 s3 s4 rfl (by decide) vk k (strs (List.replicate k zsec)) rfl ((HO.out.drew.alloc _).alloc _) ⟨wr.heap.size + 1, 0, none⟩ 1 1 [.string ⟨zsec.toArray⟩] rfl rfl (World.news_of_block HNB.out) (by simp [Value.oneCell']) (by unfold maxLen; omega) (by omega) (Nat.le_trans HK.out.size K2.out.size) ?_
            intro v3 w3 hown3 hg3 hnn
            obtain ⟨g3, c3, rfl, _, _⟩ := hown3.form (by omega)
            have k3 := (K2.out.of_false (S := fun q => vk.ownBlock = some q)).grown hg3 (fun q e => .inr e)
            have hne : vk.ownBlock ≠ some (w.heap.size + 1) := BK.out.own_ne HO.out (by decide)
            have hne0 : vk.ownBlock ≠ some w.heap.size := BR.out.own_ne HO.out (by decide)
            have q3 := (BK.out.kp k3 hne).cell 0
            have f3 := (BK.out.kp k3 hne).free 0
            have HO3 := Lib.hid hown3
            have K3 := Lib.hid k3
            have HNE := Lib.hid hne
            have HNE0 := Lib.hid hne0
            clear hown3 hg3 k3 hne hne0 hnn
            refine hK.out _ _ trivial (fun hHeld23 => ?_)
            clear hK K
            try simp only [Act.put, List.setIfInBounds_toArray, List.set_cons_zero, List.set_cons_succ]
            refine rd 6 (h := fun K hK => ?_)
            go_simp
            refine hK.out _ _ trivial (fun hHeld24 => ?_)
            clear hK K
            try simp only [Act.put, List.setIfInBounds_toArray, List.set_cons_zero, List.set_cons_succ]
            refine rd 7 (h := fun K hK => ?_)
            go_simp
            refine hK.out _ _ trivial (fun hHeld25 => ?_)
            clear hK K
            try simp only [Act.put]
            refine wpAnyH_done (by kernel_rfl) ?_ _
            go_wp2_with fail
            go_roundw
            case rel =>
              refine ⟨k + 1, _, by omega, by go_num, (BK.out.kp K3.out HNE.out).put 0 _, (BR.out.kp K3.out HNE0.out).far (by simp) _, ?_, ?_⟩
              · rw [strs_rep]
                refine down_kp HO3.out (Kp.one _ _ _ _) (fun q e1 e2 => ?_)
                subst e2
                exact (BK.out.kp K3.out HNE.out).own_ne HO3.out (by decide) e1
              · exact (HK.out.trans_new K3.out (fun q e => .inl ((HO.out.lt q e).1))).setCell (.inl (Nat.le_succ _)) _
            case measure => simp [intOf]; omega
    · obtain rfl : k = n := by omega
      have ho1 : vk.oneCell' = true := by
        obtain ⟨_, A, cap, hv, _⟩ := RdR.of_own HO.out
        rw [hv]; rfl
      go_wp2_with (first | (refine wpList_load_mid rfl 37 (.tmp 3) rfl (w.heap.size + 1) 0 rfl (rcs (newDm k) vk (.slice none 0 0)).toList _ (Box.range' (L := (rcs (newDm k) vk (.slice none 0 0)).toList) BK.out) Tryz.underlying37 rfl infoRef ?_) | (refine dwpList_store_box rfl 37 (.tmp 2) (.tmp 18) rfl w.heap.size (rcs (newDm k) vk (.slice none 0 0)).toList rfl rfl BR.out rfl infoRef (rcs_one _ _ _ ho1 rfl) ?_; intro w5 hb5 hk5) | fail)
      have hr : Rf wr vk (.slice none 0 0) (newDm k) := ⟨by
        have := RdR.of_own HO.out
        simpa [newDm] using this, RdR.nil _ _ _⟩
      refine bodyPost_ret (v := .agg (rcs (newDm k) vk (.slice none 0 0))) ?_ rfl ⟨vk, rfl, hr.store BR.out hk5, HK.out.trans_new hk5 (fun q e => .inl (by omega))⟩
      exact results_cell_row Hr.out _ _ w.heap.size 37 _ (0, 0) _ rfl hb5 Tryz.underlying37 rfl infoRef
end Go.Proofs.YtfcljcikajaedaaGreatDoor

/- Begin: a state of a disk and its log, in both ways. No condition. -/
namespace Go.Proofs.YtfcljcikajaedaaGreatDoor
open Go.RowKit Go.Maps

/-- The document's own log as cells. -/
def mcs (l : Lm) (used : Int) : List Value := [.int .u64 l.h.g, .int .u64 l.h.f, .int .i64 l.h.n, .string ⟨l.h.note.toArray⟩, .int .i64 l.a, .int .u64 l.next, .int .i64 used, .bool l.dead]
def zm : List Value := [.int .u64 0, .int .u64 0, .int .i64 0, .string ⟨#[]⟩, .int .i64 0, .int .u64 0, .int .i64 0, .bool false]
/-- A state's cells. -/
def scs (b : Nat) (d : Dm) (vo vw : Value) (pl : Value) (ms : List Value) (is : Bool) : List Value := [.pointer (some ⟨b, 0, none⟩), vo, vw, .bool (!d.power), .int .i64 (leftZ d), .string ⟨d.keep.toArray⟩, .int .u64 d.acts, pl] ++ ms ++ [.bool is]
set_option maxRecDepth 100000 in
set_option maxHeartbeats 4000000 in
theorem begin_any (n : Nat) (h1 : 1 ≤ n) (h2 : n ≤ 4096) (w : World) :
    Calls Tryz.prog 7 #[.int .i64 n] w fun e w' => ∃ gs b vo vw, e = .returned (.tuple #[.pointer (some ⟨gs, 0, none⟩), .bool true]) ∧ Dsk (fun k => w.heap.size ≤ k) w' b (newDm n) ∧ Box w' gs 44 (scs b (newDm n) vo vw (.pointer none) zm false).toArray ∧ Rf w' vo vw (newDm n) ∧ w.heap.size ≤ gs ∧ Kp (fun _ => False) w w' := by
  go_enter Tryz.func7, Tryz.ntmps7
  go_wp2_with fail
  refine (dnew_any n h1 h2 w).mono ?_
  rintro e w1 ⟨b, rfl, hd, hk⟩
  have D1 := Lib.hid hd
  have K1 := Lib.hid hk
  clear hd hk
  go_wp2_with fail
  refine (rnew_any w1 n h2).mono ?_
  rintro e w2 ⟨vo, rfl, hrf, hk⟩
  simp only [rcs]
  have D2 := Lib.hid (D1.out.still hk)
  have K2 := Lib.hid (K1.out.trans hk)
  have RF := Lib.hid hrf
  clear hrf hk
  go_wp2_with fail
  go_ret2
  have hk := (Kp.refl (fun _ => False) w2).alloc (.cells (scs b (newDm n) vo (.slice none 0 0) (.pointer none) zm false).toArray 44)
  exact ⟨_, b, vo, .slice none 0 0, rfl, D2.out.still hk, Box.new w2 _ _, RF.out.still hk, K2.out.size, K2.out.trans hk⟩
end Go.Proofs.YtfcljcikajaedaaGreatDoor
