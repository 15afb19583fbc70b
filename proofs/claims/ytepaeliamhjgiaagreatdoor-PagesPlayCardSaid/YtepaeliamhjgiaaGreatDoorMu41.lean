/- The law of pages, part 41 of 55: PgRN PgAct. -/
import Derived.Test.YtepaeliamhjgiaaGreatDoorMu40
import Derived.Test.YtepaeliamhjgiaaGreatDoorMu30
import Derived.Test.YtepaeliamhjgiaaGreatDoorMu7
import Derived.Test.YtepaeliamhjgiaaGreatDoorMu1
import Derived.Deep.DeepCutAuto
import Derived.Deep.CutRange
import Derived.Deep.CutBlock
set_option maxHeartbeats 16000000
set_option maxRecDepth 100000
namespace Go.Proofs.YtepaeliamhjgiaaGreatDoor
open Go.RowKit Go.Maps
theorem rstrs_rep (k : Nat) : strs (List.replicate (k + 1) zsec) = strs (List.replicate k zsec) ++ [.string ⟨zsec.toArray⟩] := by simp [strs, List.replicate_succ']
theorem Smp.not_cells {w : World} {g n : Nat} {m : Bm} (h : Smp w g n m) {cs : Array Value} {t : TypeId} {fr : Nat × Nat} : w.heap[g]? ≠ some (.cells cs t fr) := by
 obtain ⟨_, _, c, D, ⟨es, clock, hb, _⟩, _⟩ := h
 rw [hb]
 exact fun e => by cases e
theorem own_map {w : World} {g n B k : Nat} {m : Bm} {v : Value} {t : TypeId} {xs : List Value} (ho : w.ownsRow B t 1 v k xs) (h : Smp w g n m) : v.ownBlock ≠ some g := by
 rcases ho.2 with ⟨rfl, _⟩ | ⟨g', cap, cur, rfl, _, hg, _⟩
 ·exact fun e => by cases e
 ·intro e
  have e : some g' = some g := e
  injection e with e
  subst e
  exact h.not_cells hg
theorem page_one : Bt.pageL usedO = 1 :: List.replicate 511 0 := by decide +kernel
theorem cat_gen (n : Nat) : #[(1 : UInt8)] ++ (List.replicate (n + 1) (0 : UInt8)).toArray.extract 1 (n + 1) = ((1 : UInt8) :: List.replicate n 0).toArray := by
 apply Array.toList_inj.1
 simp
theorem tail_gen (n : Nat) : ((List.replicate (n + 1) (0 : UInt8)).toArray.extract 1 (n + 1)).size = n := by simp
theorem cat_one : (⟨#[1]⟩ : ByteArray) ++ (⟨zsec.toArray⟩ : ByteArray).extract 1 512 = ⟨(Bt.pageL usedO).toArray⟩ := by
 rw [page_one]
 apply ByteArray.ext
 rw [ByteArray.data_append, ByteArray.data_extract]
 exact cat_gen 511
theorem tail_size : ((⟨zsec.toArray⟩ : ByteArray).extract 1 512).size = 511 := by
 show ((⟨zsec.toArray⟩ : ByteArray).extract 1 512).data.size = 511
 rw [ByteArray.data_extract]
 exact tail_gen 511
def newR (n : Nat) : Rs := ⟨(List.replicate n zsec).set 0 (Bt.pageL usedO), bnone⟩
theorem newR_length (n : Nat) : (newR n).pg.length = n := by
 show ((List.replicate n zsec).set 0 _).length = n
 rw [List.length_set, List.length_replicate]
theorem newR_each (n : Nat) : ∀ p ∈ (newR n).pg, p.length = 512 := fun p hp => by
 have hp : p ∈ (List.replicate n zsec).set 0 (Bt.pageL usedO) := hp
 rcases List.mem_or_eq_of_mem_set hp with h | h
 ·rw [(List.mem_replicate.1 h).2]
  exact zsec_length
 ·rw [h]
  exact Bt.pageL_length _
theorem newbox {w : World} {gs : Nat} (k ga ca gm : Nat) (h : Box w gs 39 #[.slice (some ⟨ga, 0, none⟩) k ca, .map (some gm)]) : Box w gs 39 (rsV ga ca gm (newR k)).toArray := by
 unfold rsV
 rw [newR_length]
 exact h
theorem rnew_any (w : World) (n : Nat) (h1 : 1 <= n) (hn : n <= 1024) :
  Calls Tryz.prog 33 #[.int .i64 n] w fun e w' => ∃ a c g, e = .returned (.agg (rsV a c g (newR n)).toArray) /\ Rv w' a c g (newR n) /\ w.heap.size <= a /\ w.heap.size <= g /\ Kp (fun _ => False) w w' := by
 obtain ⟨iS, s1, s2, s3, s4⟩ := strInf
 have hmm := @run_makeMap Tryz.prog
 have Hr : Hid (Tryz.f33.results = #[.cell 2 39]) := hHd (by kernel_rfl)
 go_enter Tryz.func33, Tryz.ntmps33
 go_wp2_with fail
 obtain ⟨W, hW, hbr, hbs, hsm, hkw⟩ : ∃ W, W = ((w.alloc (.cells #[.slice none 0 0, .map none] 39)).alloc (.map #[] 0)).alloc (.cells #[.slice none 0 0, .map (some (w.heap.size + 1))] 39) /\ Box W w.heap.size 39 #[.slice none 0 0, .map none] /\ Box W (w.heap.size + 1 + 1) 39 #[.slice none 0 0, .map (some (w.heap.size + 1))] /\ Smp W (w.heap.size + 1) n bnone /\ Kp (fun _ => False) w W := by
  refine ⟨_, rfl, ((Box.new w _ _).alloc _).alloc _, ?_, ?_, (((Kp.refl _ w).alloc _).alloc _).alloc _⟩
  ·have := Box.new ((w.alloc (.cells #[.slice none 0 0, .map none] 39)).alloc (.map #[] 0)) 39 #[.slice none 0 0, .map (some (w.heap.size + 1))]
   rw [World.size_alloc, World.size_alloc] at this
   exact this
  ·have := Smp.made (w.alloc (.cells #[.slice none 0 0, .map none] 39)) hn
   rw [World.size_alloc] at this
   exact this.still ((Kp.refl _ _).alloc _)
 rw [<- hW]
 obtain ⟨gr, hgr⟩ : ∃ gr, w.heap.size = gr := ⟨_, rfl⟩
 obtain ⟨gm, hgm⟩ : ∃ gm, w.heap.size + 1 = gm := ⟨_, rfl⟩
 obtain ⟨gs, hgs⟩ : ∃ gs, w.heap.size + 1 + 1 = gs := ⟨_, rfl⟩
 have GR := hHd hgr
 have GM := hHd hgm
 have GSE := hHd hgs
 have BRS := hHd (show gr ≠ gs by omega)
 have HMS := hHd (show gm ≠ gs by omega)
 have GS := hHd (show w.heap.size <= gs by omega)
 rw [hgs, hgm] at hbs
 rw [hgr] at hbr
 rw [hgm] at hsm
 have BR0 := hHd hbr
 have BS0 := hHd hbs
 have SM0 := hHd hsm
 have KW := hHd hkw
 try rw [hgs]
 try rw [hgm]
 try rw [hgr]
 clear hW hbr hbs hsm hkw hgr hgm hgs hmm
 go_loopw [4] (fun s4 wr => ∃ (k : Nat) (vk : Value), k <= n /\ s4 = .int .i64 k /\ Box wr gs 39 #[vk, .map (some gm)] /\ Box wr gr 39 #[.slice none 0 0, .map none] /\ wr.ownsRow w.heap.size 9 1 vk k (strs (List.replicate k zsec)) /\ Smp wr gm n bnone /\ Kp (fun _ => False) w wr)
  (fun s4 _ => n - (Go.RowKit.intOf s4).toNat)
 case atStart => exact ⟨0, .slice none 0 0, Nat.zero_le _, rfl, BS0.out, BR0.out, World.ownsRow_nil _ _ _ _, SM0.out, KW.out⟩
 case round =>
  obtain ⟨k, vk, hk, rfl, hb0, hb1, hown, hsm, hkw⟩ := hrel
  have BK := hHd hb0
  have BR := hHd hb1
  have HO := hHd hown
  have HM := hHd hsm
  have HK := hHd hkw
  clear hb0 hb1 hown hsm hkw
  by_cases hlt : k < n
  ·go_upto_region 5 with fail
   refine wp_region_held_drew (S := fun _ => True) (by kernel_rfl) trivial (fun hHeld => ?_)
   have KX := hHd ((Kp.refl (fun _ => False) wr).drew)
   refine tk 0 (h := ?_)
   refine wpAnyH_ready (rs := [1, 2]) (by kernel_rfl) (by simp) ?_
   refine rdc 1 (h := fun K hK => ?_) (hs := rdc 2 (h := fun K hK => ?_) (hs := AllReadyH.nil))
   ·have y := (BK.out.kp KX.out (fun e => e)).cell 0
    go_simp
    clear y
    refine hK.out _ _ (trivial) (fun hHeld16 => ?_)
    clear hK K
    try simp only [Act.put, sIa, sI0, sI1]
    refine rd 2 (h := fun K hK => ?_)
    go_simp
    refine (rzero_any _).mono ?_
    rintro e wz ⟨rfl, hkz⟩
    have KZ := hHd (KX.out.trans hkz)
    clear hkz
    go_wp2_with fail
    clear KX
    have KX := hHd KZ.out
    clear KZ
    refine hK.out _ _ (trivial) (fun hHeld5 => ?_)
    clear hK K
    try simp only [Act.put, sIa, sI0, sI1]
    refine rd 3 (h := fun K hK => ?_)
    go_simp
    obtain ⟨wn, hwn, hkn, hnb⟩ : ∃ wn, wn = wz.alloc (.cells #[.string ⟨zsec.toArray⟩] 9) /\ Kp (fun _ => False) wz wn /\ wn.heap[wz.heap.size]? = some (.cells #[.string ⟨zsec.toArray⟩] 9) := ⟨_, rfl, (Kp.refl _ wz).alloc _, heap_alloc_new wz _⟩
    rw [<- hwn]
    obtain ⟨gn, hgn⟩ : ∃ gn, wz.heap.size = gn := ⟨_, rfl⟩
    rw [hgn] at hnb
    try rw [hgn]
    have HNB := hHd hnb
    have KN := hHd (KX.out.trans hkn)
    clear hwn hkn hnb hgn KX
    have KX := hHd KN.out
    clear KN
    refine hK.out _ _ (trivial) (fun hHeld4 => ?_)
    clear hK K
    try simp only [Act.put, sIa, sI0, sI1]
    refine rd 4 (h := fun K hK => ?_)
    refine wp_append_own _ (.tmp 13) (.tmp 15) 36 rfl w.heap.size 9 iS (.string ⟨#[]⟩) 1 16 Tryz.underlying36 s1 s2 s3 s4 rfl (by decide) vk k (strs (List.replicate k zsec)) rfl (down_kp HO.out KX.out (fun q _ e => e)) ⟨gn, 0, none⟩ 1 1 [.string ⟨zsec.toArray⟩] rfl rfl (World.news_of_block HNB.out) (by simp [Value.oneCell']) (by unfold maxLen; omega) (by omega) (Nat.le_trans HK.out.size KX.out.size) ?_
    intro v3 w3 hown3 hg3 hnn
    obtain ⟨g3, c3, rfl, _, _⟩ := hown3.form (by omega)
    have k3 := (KX.out.of_false (S := fun q => vk.ownBlock = some q)).grown hg3 (fun q e => .inr e)
    have HNE := hHd (show vk.ownBlock ≠ some gs from BK.out.own_ne HO.out (by decide))
    have HNE0 := hHd (show vk.ownBlock ≠ some gr from BR.out.own_ne HO.out (by decide))
    have HO3 := hHd hown3
    have K3 := hHd k3
    clear hown3 hg3 k3 hnn
    refine hK.out _ _ (trivial) (fun hHeld1 => ?_)
    clear hK K
    try simp only [Act.put, sIa, sI0, sI1]
    refine rd 5 (h := fun K hK => ?_)
    go_simp
    refine hK.out _ _ (trivial) (fun hHeld2 => ?_)
    clear hK K
    try simp only [Act.put, sIa, sI0, sI1]
    refine rd 6 (h := fun K hK => ?_)
    have y := (BK.out.kp K3.out HNE.out).cell 0
    have yf := (BK.out.kp K3.out HNE.out).free 0
    go_simp
    clear y yf
    refine hK.out _ _ (trivial) (fun hHeld3 => ?_)
    clear hK K
    try simp only [Act.put, sIa, sI0, sI1]
    refine wpAnyH_done (by kernel_rfl) ?_ _
    clear hHeld
    go_wp2_with fail
    go_roundw
    case rel =>
     refine ⟨k + 1, _, by omega, by go_num, (BK.out.kp K3.out HNE.out).put 0 _, (BR.out.kp K3.out HNE0.out).far (by show gr ≠ gs; exact BRS.out) _, ?_, ?_, ?_⟩
     ·rw [rstrs_rep]
      refine down_kp HO3.out (Kp.one _ _ _ _) (fun q e1 e2 => ?_)
      subst e2
      exact (BK.out.kp K3.out HNE.out).own_ne HO3.out (by decide) e1
     ·exact (HM.out.kp K3.out (fun e => own_map HO.out HM.out e)).kp (Kp.one _ _ _ _) (fun e => HMS.out e)
     ·exact (HK.out.trans_new K3.out (fun q e => .inl ((HO.out.lt q e).1))).setCell (p := ⟨gs, 0, none⟩) (.inl GS.out) _
    case measure => simp [Go.RowKit.intOf]; omega
   ·go_simp
    refine (rzero_any _).mono ?_
    rintro e wz ⟨rfl, hkz⟩
    have KZ := hHd (KX.out.trans hkz)
    clear hkz
    go_wp2_with fail
    clear KX
    have KX := hHd KZ.out
    clear KZ
    refine hK.out _ _ (trivial) (fun hHeld17 => ?_)
    clear hK K
    try simp only [Act.put, sIa, sI0, sI1]
    refine wpAnyH_ready (rs := [1, 3]) (by kernel_rfl) (by simp) ?_
    refine rdc 1 (h := fun K hK => ?_) (hs := rdc 3 (h := fun K hK => ?_) (hs := AllReadyH.nil))
    ·have y := (BK.out.kp KX.out (fun e => e)).cell 0
     go_simp
     clear y
     refine hK.out _ _ (trivial) (fun hHeld14 => ?_)
     clear hK K
     try simp only [Act.put, sIa, sI0, sI1]
     refine rd 3 (h := fun K hK => ?_)
     go_simp
     obtain ⟨wn, hwn, hkn, hnb⟩ : ∃ wn, wn = wz.alloc (.cells #[.string ⟨zsec.toArray⟩] 9) /\ Kp (fun _ => False) wz wn /\ wn.heap[wz.heap.size]? = some (.cells #[.string ⟨zsec.toArray⟩] 9) := ⟨_, rfl, (Kp.refl _ wz).alloc _, heap_alloc_new wz _⟩
     rw [<- hwn]
     obtain ⟨gn, hgn⟩ : ∃ gn, wz.heap.size = gn := ⟨_, rfl⟩
     rw [hgn] at hnb
     try rw [hgn]
     have HNB := hHd hnb
     have KN := hHd (KX.out.trans hkn)
     clear hwn hkn hnb hgn KX
     have KX := hHd KN.out
     clear KN
     refine hK.out _ _ (trivial) (fun hHeld9 => ?_)
     clear hK K
     try simp only [Act.put, sIa, sI0, sI1]
     refine rd 4 (h := fun K hK => ?_)
     refine wp_append_own _ (.tmp 13) (.tmp 15) 36 rfl w.heap.size 9 iS (.string ⟨#[]⟩) 1 16 Tryz.underlying36 s1 s2 s3 s4 rfl (by decide) vk k (strs (List.replicate k zsec)) rfl (down_kp HO.out KX.out (fun q _ e => e)) ⟨gn, 0, none⟩ 1 1 [.string ⟨zsec.toArray⟩] rfl rfl (World.news_of_block HNB.out) (by simp [Value.oneCell']) (by unfold maxLen; omega) (by omega) (Nat.le_trans HK.out.size KX.out.size) ?_
     intro v3 w3 hown3 hg3 hnn
     obtain ⟨g3, c3, rfl, _, _⟩ := hown3.form (by omega)
     have k3 := (KX.out.of_false (S := fun q => vk.ownBlock = some q)).grown hg3 (fun q e => .inr e)
     have HNE := hHd (show vk.ownBlock ≠ some gs from BK.out.own_ne HO.out (by decide))
     have HNE0 := hHd (show vk.ownBlock ≠ some gr from BR.out.own_ne HO.out (by decide))
     have HO3 := hHd hown3
     have K3 := hHd k3
     clear hown3 hg3 k3 hnn
     refine hK.out _ _ (trivial) (fun hHeld6 => ?_)
     clear hK K
     try simp only [Act.put, sIa, sI0, sI1]
     refine rd 5 (h := fun K hK => ?_)
     go_simp
     refine hK.out _ _ (trivial) (fun hHeld7 => ?_)
     clear hK K
     try simp only [Act.put, sIa, sI0, sI1]
     refine rd 6 (h := fun K hK => ?_)
     have y := (BK.out.kp K3.out HNE.out).cell 0
     have yf := (BK.out.kp K3.out HNE.out).free 0
     go_simp
     clear y yf
     refine hK.out _ _ (trivial) (fun hHeld8 => ?_)
     clear hK K
     try simp only [Act.put, sIa, sI0, sI1]
     refine wpAnyH_done (by kernel_rfl) ?_ _
     clear hHeld
     go_wp2_with fail
     go_roundw
     case rel =>
      refine ⟨k + 1, _, by omega, by go_num, (BK.out.kp K3.out HNE.out).put 0 _, (BR.out.kp K3.out HNE0.out).far (by show gr ≠ gs; exact BRS.out) _, ?_, ?_, ?_⟩
      ·rw [rstrs_rep]
       refine down_kp HO3.out (Kp.one _ _ _ _) (fun q e1 e2 => ?_)
       subst e2
       exact (BK.out.kp K3.out HNE.out).own_ne HO3.out (by decide) e1
      ·exact (HM.out.kp K3.out (fun e => own_map HO.out HM.out e)).kp (Kp.one _ _ _ _) (fun e => HMS.out e)
      ·exact (HK.out.trans_new K3.out (fun q e => .inl ((HO.out.lt q e).1))).setCell (p := ⟨gs, 0, none⟩) (.inl GS.out) _
     case measure => simp [Go.RowKit.intOf]; omega
    ·go_simp
     obtain ⟨wn, hwn, hkn, hnb⟩ : ∃ wn, wn = wz.alloc (.cells #[.string ⟨zsec.toArray⟩] 9) /\ Kp (fun _ => False) wz wn /\ wn.heap[wz.heap.size]? = some (.cells #[.string ⟨zsec.toArray⟩] 9) := ⟨_, rfl, (Kp.refl _ wz).alloc _, heap_alloc_new wz _⟩
     rw [<- hwn]
     obtain ⟨gn, hgn⟩ : ∃ gn, wz.heap.size = gn := ⟨_, rfl⟩
     rw [hgn] at hnb
     try rw [hgn]
     have HNB := hHd hnb
     have KN := hHd (KX.out.trans hkn)
     clear hwn hkn hnb hgn KX
     have KX := hHd KN.out
     clear KN
     refine hK.out _ _ (trivial) (fun hHeld15 => ?_)
     clear hK K
     try simp only [Act.put, sIa, sI0, sI1]
     refine rd 1 (h := fun K hK => ?_)
     have y := (BK.out.kp KX.out (fun e => e)).cell 0
     go_simp
     clear y
     refine hK.out _ _ (trivial) (fun hHeld13 => ?_)
     clear hK K
     try simp only [Act.put, sIa, sI0, sI1]
     refine rd 4 (h := fun K hK => ?_)
     refine wp_append_own _ (.tmp 13) (.tmp 15) 36 rfl w.heap.size 9 iS (.string ⟨#[]⟩) 1 16 Tryz.underlying36 s1 s2 s3 s4 rfl (by decide) vk k (strs (List.replicate k zsec)) rfl (down_kp HO.out KX.out (fun q _ e => e)) ⟨gn, 0, none⟩ 1 1 [.string ⟨zsec.toArray⟩] rfl rfl (World.news_of_block HNB.out) (by simp [Value.oneCell']) (by unfold maxLen; omega) (by omega) (Nat.le_trans HK.out.size KX.out.size) ?_
     intro v3 w3 hown3 hg3 hnn
     obtain ⟨g3, c3, rfl, _, _⟩ := hown3.form (by omega)
     have k3 := (KX.out.of_false (S := fun q => vk.ownBlock = some q)).grown hg3 (fun q e => .inr e)
     have HNE := hHd (show vk.ownBlock ≠ some gs from BK.out.own_ne HO.out (by decide))
     have HNE0 := hHd (show vk.ownBlock ≠ some gr from BR.out.own_ne HO.out (by decide))
     have HO3 := hHd hown3
     have K3 := hHd k3
     clear hown3 hg3 k3 hnn
     refine hK.out _ _ (trivial) (fun hHeld10 => ?_)
     clear hK K
     try simp only [Act.put, sIa, sI0, sI1]
     refine rd 5 (h := fun K hK => ?_)
     go_simp
     refine hK.out _ _ (trivial) (fun hHeld11 => ?_)
     clear hK K
     try simp only [Act.put, sIa, sI0, sI1]
     refine rd 6 (h := fun K hK => ?_)
     have y := (BK.out.kp K3.out HNE.out).cell 0
     have yf := (BK.out.kp K3.out HNE.out).free 0
     go_simp
     clear y yf
     refine hK.out _ _ (trivial) (fun hHeld12 => ?_)
     clear hK K
     try simp only [Act.put, sIa, sI0, sI1]
     refine wpAnyH_done (by kernel_rfl) ?_ _
     clear hHeld
     go_wp2_with fail
     go_roundw
     case rel =>
      refine ⟨k + 1, _, by omega, by go_num, (BK.out.kp K3.out HNE.out).put 0 _, (BR.out.kp K3.out HNE0.out).far (by show gr ≠ gs; exact BRS.out) _, ?_, ?_, ?_⟩
      ·rw [rstrs_rep]
       refine down_kp HO3.out (Kp.one _ _ _ _) (fun q e1 e2 => ?_)
       subst e2
       exact (BK.out.kp K3.out HNE.out).own_ne HO3.out (by decide) e1
      ·exact (HM.out.kp K3.out (fun e => own_map HO.out HM.out e)).kp (Kp.one _ _ _ _) (fun e => HMS.out e)
      ·exact (HK.out.trans_new K3.out (fun q e => .inl ((HO.out.lt q e).1))).setCell (p := ⟨gs, 0, none⟩) (.inl GS.out) _
     case measure => simp [Go.RowKit.intOf]; omega
  ·obtain rfl : k = n := by omega
   obtain ⟨ga, ca, rfl, hge, _⟩ := HO.out.form h1
   have RP := hHd (Rowp.of_own HO.out)
   have HGE := hHd hge
   have yq := (RP.out.1).cell (i := 0) (p := zsec) (by rw [List.getElem?_replicate_of_lt h1])
   have NAS := hHd (show ga ≠ gs from fun e => by
    obtain ⟨cur, hb, _⟩ := RP.out.1
    rw [e] at hb
    exact hb.type_ne BK.out (by decide) rfl)
   have YQ := hHd yq
   have NAR := hHd (show ga ≠ gr from fun e => by
    obtain ⟨cur, hb, _⟩ := RP.out.1
    rw [e] at hb
    exact hb.type_ne BR.out (by decide) rfl)
   have NAM := hHd (show ga ≠ gm from fun e => by
    obtain ⟨cur, hb, _⟩ := RP.out.1
    rw [e] at hb
    exact HM.out.not_cells hb)
   have NMR := hHd (show gm ≠ gr by have := GM.out; have := GR.out; omega)
   have YQK := hHd (show ∀ v, Kp (fun _ => False) wr v -> v.cell? ⟨ga, 0, none⟩ = some (.string ⟨zsec.toArray⟩) from fun v hv => (hv.cell (p := ⟨ga, 0, none⟩) (World.block_lt_of_cell? _ _ yq) (fun e => e)).trans yq)
   have YFK := hHd (show ∀ v, Kp (fun _ => False) wr v -> v.frozen? ⟨ga, 0, none⟩ = false from fun v hv => (hv.frozen (p := ⟨ga, 0, none⟩) (World.block_lt_of_cell? _ _ yq) (fun e => e)).trans (RP.out.1.free 0))
   obtain ⟨zs, hzs⟩ : ∃ zs : ByteArray, (⟨zsec.toArray⟩ : ByteArray) = zs := ⟨_, rfl⟩
   have HZ := hHd (fun w => rzero_any w)
   rw [hzs] at HZ
   obtain ⟨tl, htl⟩ : ∃ tl, zs.extract 1 512 = tl := ⟨_, rfl⟩
   have HCAT := hHd (show (⟨#[1]⟩ : ByteArray) ++ tl = ⟨(Bt.pageL usedO).toArray⟩ by rw [<- htl, <- hzs]; exact cat_one)
   have hts : tl.size = 511 := by rw [<- htl, <- hzs]; exact tail_size
   have hz5 : zs.size = 512 := by rw [<- hzs]; exact zsec_length
   have hki : (0 : Int) < (k : Int) := by omega
   have hk0 : 0 < k := h1
   clear hge yq hzs
   go_upto_region 6 with fail
   refine wp_region_held_drew (S := fun _ => True) (by kernel_rfl) trivial (fun hHeld => ?_)
   have KX := hHd ((Kp.refl (fun _ => False) wr).drew)
   refine tk 0 (h := ?_)
   refine wpAnyH_ready (rs := [1, 2]) (by kernel_rfl) (by simp) ?_
   refine rdc 1 (h := fun K hK => ?_) (hs := rdc 2 (h := fun K hK => ?_) (hs := AllReadyH.nil))
   ·have y := (BK.out.kp KX.out (fun e => e)).cell 0
    go_simp
    clear y
    refine hK.out _ _ (trivial) (fun hHeld37 => ?_)
    clear hK K
    try simp only [Act.put, sIa, sI0, sI1]
    refine rd 2 (h := fun K hK => ?_)
    go_simp
    refine (HZ.out _).mono ?_
    rintro e wz ⟨rfl, hkz⟩
    have KZ := hHd (KX.out.trans hkz)
    clear hkz
    go_wp2_with fail
    clear KX
    have KX := hHd KZ.out
    clear KZ
    refine hK.out _ _ (trivial) (fun hHeld18 => ?_)
    clear hK K
    try simp only [Act.put, sIa, sI0, sI1]
    refine rd 3 (h := fun K hK => ?_)
    go_simp
    refine hK.out _ _ (trivial) (fun hHeld19 => ?_)
    clear hK K
    try simp only [Act.put, sIa, sI0, sI1]
    refine rd 4 (h := fun K hK => ?_)
    go_simp
    rw [HCAT.out]
    refine hK.out _ _ (trivial) (fun hHeld20 => ?_)
    clear hK K
    try simp only [Act.put, sIa, sI0, sI1]
    refine rd 5 (h := fun K hK => ?_)
    go_simp
    refine hK.out _ _ (trivial) (fun hHeld21 => ?_)
    clear hK K
    try simp only [Act.put, sIa, sI0, sI1]
    refine rd 6 (h := fun K hK => ?_)
    have y := (YQK.out _ KX.out)
    have yf := (YFK.out _ KX.out)
    go_simp
    clear y yf
    refine hK.out _ _ (trivial) (fun hHeld22 => ?_)
    clear hK K
    try simp only [Act.put, sIa, sI0, sI1]
    refine wpAnyH_done (by kernel_rfl) ?_ _
    clear hHeld
    have hrp := (RP.out.1.kp KX.out (fun e => e)).put 0 (by rw [List.length_replicate]; exact h1) (Bt.pageL usedO)
    have hk7 := (KX.out.of_false (S := fun q => q = ga)).trans (Kp.one _ ga 0 (.string ⟨(Bt.pageL usedO).toArray⟩))
    have BK7 := hHd (BK.out.kp hk7 (fun e => NAS.out e.symm))
    have BR7 := hHd (BR.out.kp hk7 (fun e => NAR.out e.symm))
    have HM7 := hHd (HM.out.kp hk7 (fun e => NAM.out e.symm))
    have RP7 := hHd hrp
    have K7 := hHd (HK.out.trans_new hk7 (fun q e => .inl (by have := HGE.out; have e : q = ga := e; omega)))
    clear hrp hk7
    try simp only [Act.put]
    go_wp2_with (first | (refine wpList_load_mid rfl 39 (.tmp 3) rfl gs 0 rfl (rsV ga ca gm (newR k)) _ (Box.range' (L := rsV ga ca gm (newR k)) (newbox k ga ca gm BK7.out)) Tryz.underlying39 rfl (infoRs _ _ _ _) ?_) | (refine dwpList_store_box rfl 39 (.tmp 2) (.tmp 24) rfl gr (rsV ga ca gm (newR k)) rfl rfl BR7.out (by kernel_rfl) (infoRs _ _ _ _) (rsV_one _ _ _ _) ?_; intro w5 hb5 hk5) | fail)
    refine bodyPost_ret (v := .agg (rsV ga ca gm (newR k)).toArray) ?_ rfl ⟨ga, ca, gm, rfl, ⟨RP7.out.kp hk5 (fun e => NAR.out e), by rw [newR_length]; exact RP.out.2, by rw [newR_length]; exact h1, newR_each k, ?_⟩, HGE.out, by have := GM.out; omega, K7.out.trans_new hk5 (fun q e => .inl (by have := GR.out; have e : q = gr := e; omega))⟩
    ·exact results_cell_row Hr.out _ _ gr 39 _ (0, 0) _ rfl hb5 Tryz.underlying39 rfl (infoRsa _ _ _ _)
    ·have h9 := HM7.out.kp hk5 (fun e => NMR.out e)
     rw [<- newR_length k] at h9
     exact h9
   ·go_simp
    refine (HZ.out _).mono ?_
    rintro e wz ⟨rfl, hkz⟩
    have KZ := hHd (KX.out.trans hkz)
    clear hkz
    go_wp2_with fail
    clear KX
    have KX := hHd KZ.out
    clear KZ
    refine hK.out _ _ (trivial) (fun hHeld38 => ?_)
    clear hK K
    try simp only [Act.put, sIa, sI0, sI1]
    refine wpAnyH_ready (rs := [1, 3]) (by kernel_rfl) (by simp) ?_
    refine rdc 1 (h := fun K hK => ?_) (hs := rdc 3 (h := fun K hK => ?_) (hs := AllReadyH.nil))
    ·have y := (BK.out.kp KX.out (fun e => e)).cell 0
     go_simp
     clear y
     refine hK.out _ _ (trivial) (fun hHeld35 => ?_)
     clear hK K
     try simp only [Act.put, sIa, sI0, sI1]
     refine rd 3 (h := fun K hK => ?_)
     go_simp
     refine hK.out _ _ (trivial) (fun hHeld23 => ?_)
     clear hK K
     try simp only [Act.put, sIa, sI0, sI1]
     refine rd 4 (h := fun K hK => ?_)
     go_simp
     rw [HCAT.out]
     refine hK.out _ _ (trivial) (fun hHeld24 => ?_)
     clear hK K
     try simp only [Act.put, sIa, sI0, sI1]
     refine rd 5 (h := fun K hK => ?_)
     go_simp
     refine hK.out _ _ (trivial) (fun hHeld25 => ?_)
     clear hK K
     try simp only [Act.put, sIa, sI0, sI1]
     refine rd 6 (h := fun K hK => ?_)
     have y := (YQK.out _ KX.out)
     have yf := (YFK.out _ KX.out)
     go_simp
     clear y yf
     refine hK.out _ _ (trivial) (fun hHeld26 => ?_)
     clear hK K
     try simp only [Act.put, sIa, sI0, sI1]
     refine wpAnyH_done (by kernel_rfl) ?_ _
     clear hHeld
     have hrp := (RP.out.1.kp KX.out (fun e => e)).put 0 (by rw [List.length_replicate]; exact h1) (Bt.pageL usedO)
     have hk7 := (KX.out.of_false (S := fun q => q = ga)).trans (Kp.one _ ga 0 (.string ⟨(Bt.pageL usedO).toArray⟩))
     have BK7 := hHd (BK.out.kp hk7 (fun e => NAS.out e.symm))
     have BR7 := hHd (BR.out.kp hk7 (fun e => NAR.out e.symm))
     have HM7 := hHd (HM.out.kp hk7 (fun e => NAM.out e.symm))
     have RP7 := hHd hrp
     have K7 := hHd (HK.out.trans_new hk7 (fun q e => .inl (by have := HGE.out; have e : q = ga := e; omega)))
     clear hrp hk7
     try simp only [Act.put]
     go_wp2_with (first | (refine wpList_load_mid rfl 39 (.tmp 3) rfl gs 0 rfl (rsV ga ca gm (newR k)) _ (Box.range' (L := rsV ga ca gm (newR k)) (newbox k ga ca gm BK7.out)) Tryz.underlying39 rfl (infoRs _ _ _ _) ?_) | (refine dwpList_store_box rfl 39 (.tmp 2) (.tmp 24) rfl gr (rsV ga ca gm (newR k)) rfl rfl BR7.out (by kernel_rfl) (infoRs _ _ _ _) (rsV_one _ _ _ _) ?_; intro w5 hb5 hk5) | fail)
     refine bodyPost_ret (v := .agg (rsV ga ca gm (newR k)).toArray) ?_ rfl ⟨ga, ca, gm, rfl, ⟨RP7.out.kp hk5 (fun e => NAR.out e), by rw [newR_length]; exact RP.out.2, by rw [newR_length]; exact h1, newR_each k, ?_⟩, HGE.out, by have := GM.out; omega, K7.out.trans_new hk5 (fun q e => .inl (by have := GR.out; have e : q = gr := e; omega))⟩
     ·exact results_cell_row Hr.out _ _ gr 39 _ (0, 0) _ rfl hb5 Tryz.underlying39 rfl (infoRsa _ _ _ _)
     ·have h9 := HM7.out.kp hk5 (fun e => NMR.out e)
      rw [<- newR_length k] at h9
      exact h9
    ·go_simp
     refine hK.out _ _ (trivial) (fun hHeld36 => ?_)
     clear hK K
     try simp only [Act.put, sIa, sI0, sI1]
     refine wpAnyH_ready (rs := [1, 4]) (by kernel_rfl) (by simp) ?_
     refine rdc 1 (h := fun K hK => ?_) (hs := rdc 4 (h := fun K hK => ?_) (hs := AllReadyH.nil))
     ·have y := (BK.out.kp KX.out (fun e => e)).cell 0
      go_simp
      clear y
      refine hK.out _ _ (trivial) (fun hHeld33 => ?_)
      clear hK K
      try simp only [Act.put, sIa, sI0, sI1]
      refine rd 4 (h := fun K hK => ?_)
      go_simp
      rw [HCAT.out]
      refine hK.out _ _ (trivial) (fun hHeld27 => ?_)
      clear hK K
      try simp only [Act.put, sIa, sI0, sI1]
      refine rd 5 (h := fun K hK => ?_)
      go_simp
      refine hK.out _ _ (trivial) (fun hHeld28 => ?_)
      clear hK K
      try simp only [Act.put, sIa, sI0, sI1]
      refine rd 6 (h := fun K hK => ?_)
      have y := (YQK.out _ KX.out)
      have yf := (YFK.out _ KX.out)
      go_simp
      clear y yf
      refine hK.out _ _ (trivial) (fun hHeld29 => ?_)
      clear hK K
      try simp only [Act.put, sIa, sI0, sI1]
      refine wpAnyH_done (by kernel_rfl) ?_ _
      clear hHeld
      have hrp := (RP.out.1.kp KX.out (fun e => e)).put 0 (by rw [List.length_replicate]; exact h1) (Bt.pageL usedO)
      have hk7 := (KX.out.of_false (S := fun q => q = ga)).trans (Kp.one _ ga 0 (.string ⟨(Bt.pageL usedO).toArray⟩))
      have BK7 := hHd (BK.out.kp hk7 (fun e => NAS.out e.symm))
      have BR7 := hHd (BR.out.kp hk7 (fun e => NAR.out e.symm))
      have HM7 := hHd (HM.out.kp hk7 (fun e => NAM.out e.symm))
      have RP7 := hHd hrp
      have K7 := hHd (HK.out.trans_new hk7 (fun q e => .inl (by have := HGE.out; have e : q = ga := e; omega)))
      clear hrp hk7
      try simp only [Act.put]
      go_wp2_with (first | (refine wpList_load_mid rfl 39 (.tmp 3) rfl gs 0 rfl (rsV ga ca gm (newR k)) _ (Box.range' (L := rsV ga ca gm (newR k)) (newbox k ga ca gm BK7.out)) Tryz.underlying39 rfl (infoRs _ _ _ _) ?_) | (refine dwpList_store_box rfl 39 (.tmp 2) (.tmp 24) rfl gr (rsV ga ca gm (newR k)) rfl rfl BR7.out (by kernel_rfl) (infoRs _ _ _ _) (rsV_one _ _ _ _) ?_; intro w5 hb5 hk5) | fail)
      refine bodyPost_ret (v := .agg (rsV ga ca gm (newR k)).toArray) ?_ rfl ⟨ga, ca, gm, rfl, ⟨RP7.out.kp hk5 (fun e => NAR.out e), by rw [newR_length]; exact RP.out.2, by rw [newR_length]; exact h1, newR_each k, ?_⟩, HGE.out, by have := GM.out; omega, K7.out.trans_new hk5 (fun q e => .inl (by have := GR.out; have e : q = gr := e; omega))⟩
      ·exact results_cell_row Hr.out _ _ gr 39 _ (0, 0) _ rfl hb5 Tryz.underlying39 rfl (infoRsa _ _ _ _)
      ·have h9 := HM7.out.kp hk5 (fun e => NMR.out e)
       rw [<- newR_length k] at h9
       exact h9
     ·go_simp
      rw [HCAT.out]
      refine hK.out _ _ (trivial) (fun hHeld34 => ?_)
      clear hK K
      try simp only [Act.put, sIa, sI0, sI1]
      refine rd 1 (h := fun K hK => ?_)
      have y := (BK.out.kp KX.out (fun e => e)).cell 0
      go_simp
      clear y
      refine hK.out _ _ (trivial) (fun hHeld30 => ?_)
      clear hK K
      try simp only [Act.put, sIa, sI0, sI1]
      refine rd 5 (h := fun K hK => ?_)
      go_simp
      refine hK.out _ _ (trivial) (fun hHeld31 => ?_)
      clear hK K
      try simp only [Act.put, sIa, sI0, sI1]
      refine rd 6 (h := fun K hK => ?_)
      have y := (YQK.out _ KX.out)
      have yf := (YFK.out _ KX.out)
      go_simp
      clear y yf
      refine hK.out _ _ (trivial) (fun hHeld32 => ?_)
      clear hK K
      try simp only [Act.put, sIa, sI0, sI1]
      refine wpAnyH_done (by kernel_rfl) ?_ _
      clear hHeld
      have hrp := (RP.out.1.kp KX.out (fun e => e)).put 0 (by rw [List.length_replicate]; exact h1) (Bt.pageL usedO)
      have hk7 := (KX.out.of_false (S := fun q => q = ga)).trans (Kp.one _ ga 0 (.string ⟨(Bt.pageL usedO).toArray⟩))
      have BK7 := hHd (BK.out.kp hk7 (fun e => NAS.out e.symm))
      have BR7 := hHd (BR.out.kp hk7 (fun e => NAR.out e.symm))
      have HM7 := hHd (HM.out.kp hk7 (fun e => NAM.out e.symm))
      have RP7 := hHd hrp
      have K7 := hHd (HK.out.trans_new hk7 (fun q e => .inl (by have := HGE.out; have e : q = ga := e; omega)))
      clear hrp hk7
      try simp only [Act.put]
      go_wp2_with (first | (refine wpList_load_mid rfl 39 (.tmp 3) rfl gs 0 rfl (rsV ga ca gm (newR k)) _ (Box.range' (L := rsV ga ca gm (newR k)) (newbox k ga ca gm BK7.out)) Tryz.underlying39 rfl (infoRs _ _ _ _) ?_) | (refine dwpList_store_box rfl 39 (.tmp 2) (.tmp 24) rfl gr (rsV ga ca gm (newR k)) rfl rfl BR7.out (by kernel_rfl) (infoRs _ _ _ _) (rsV_one _ _ _ _) ?_; intro w5 hb5 hk5) | fail)
      refine bodyPost_ret (v := .agg (rsV ga ca gm (newR k)).toArray) ?_ rfl ⟨ga, ca, gm, rfl, ⟨RP7.out.kp hk5 (fun e => NAR.out e), by rw [newR_length]; exact RP.out.2, by rw [newR_length]; exact h1, newR_each k, ?_⟩, HGE.out, by have := GM.out; omega, K7.out.trans_new hk5 (fun q e => .inl (by have := GR.out; have e : q = gr := e; omega))⟩
      ·exact results_cell_row Hr.out _ _ gr 39 _ (0, 0) _ rfl hb5 Tryz.underlying39 rfl (infoRsa _ _ _ _)
      ·have h9 := HM7.out.kp hk5 (fun e => NMR.out e)
       rw [<- newR_length k] at h9
       exact h9
structure Aw where
 d : Int
 n : Int
 c : UInt8
 keep : List UInt8
structure Aw.Ok (x : Aw) : Prop where
 d0 : 0 <= x.d
 d1 : x.d < 256
 n0 : -9223372036854775808 <= x.n
 n1 : x.n <= 9223372036854775807
 k1 : x.keep.length <= maxLen
def Aw.cells (x : Aw) : Array Value := #[.int .u8 x.d, .int .i64 x.n, .int .u8 x.c.toNat, .string ⟨x.keep.toArray⟩]
def Aws (w : World) (B : Nat) (A : Option Addr) (l : List Aw) : Prop :=
 (∀ x ∈ l, x.Ok) /\ (l = [] \/ ∃ b o, A = some ⟨b, o, none⟩ /\ b < B /\ ∀ i x, l[i]? = some x -> ∀ j v, x.cells[j]? = some v -> w.cell? ⟨b, o + i * 4 + j, none⟩ = some v)
theorem Aws.keep {w w' : World} {B : Nat} {A : Option Addr} {l : List Aw} (h : Aws w B A l) (hk : ∀ k, k < B -> w'.heap[k]? = w.heap[k]?) : Aws w' B A l := by
 refine ⟨h.1, ?_⟩
 rcases h.2 with h0 | ⟨b, o, rfl, hb, hc⟩
 ·exact .inl h0
 ·exact .inr ⟨b, o, rfl, hb, fun i x hx j v hv => (World.cell?_of_block (hk b hb)).trans (hc i x hx j v hv)⟩
def greatW (l : List Aw) : Bool := decide (60 < l.length) || l.any fun x => decide (100 < x.keep.length)
theorem not_greatW {l : List Aw} (h : greatW l = false) : l.length <= 60 /\ ∀ x ∈ l, x.keep.length <= 100 := by
 simp [greatW] at h
 exact ⟨h.1, fun x hx => h.2 x hx⟩
section
variable {B : Nat} {A : Option Addr} {l : List Aw} {w : World}
theorem greatw_any (h : Aws w B A l) (c : Nat) (hc : l.length <= c) (_hm : c <= maxLen) :
  Calls Tryz.prog 6 #[.slice A l.length c] w fun e w' => e = .returned (.bool (greatW l)) /\ w = w' := by
 unfold maxLen at _hm
 have H := hHd h.2
 clear h
 by_cases h60 : 60 < l.length
 ·have hg : greatW l = true := by simp [greatW, h60]
  have Hg := hHd hg
  clear hg
  go_enter Tryz.func6, Tryz.ntmps6
  go_wp2_with fail
  go_ret
  exact ⟨by rw [Hg.out]; rfl, rfl⟩
 ·have hd : decide (60 < l.length) = false := by simp; omega
  go_enter Tryz.func6, Tryz.ntmps6
  go_wp2_with fail
  go_loop [3] (fun i => ∃ k : Nat, k <= l.length /\ i = .int .i64 k /\ ∀ x ∈ l.take k, x.keep.length <= 100) (fun i => l.length - (intOf i).toNat)
  case atStart => exact ⟨0, Nat.zero_le _, rfl, by simp⟩
  case round =>
   obtain ⟨k, hk, rfl, hx⟩ := hrel
   have Hx := hHd hx
   clear hx
   by_cases hlt : k < l.length
   ·obtain ⟨b, o, rfl, _, hcell⟩ : ∃ b o, A = some ⟨b, o, none⟩ /\ b < B /\ ∀ i x, l[i]? = some x -> ∀ j v, x.cells[j]? = some v -> w.cell? ⟨b, o + i * 4 + j, none⟩ = some v := by
     rcases H.out with h0 | h0
     ·subst h0; simp at hlt
     ·exact h0
    have c3 := hcell k l[k] (List.getElem?_eq_getElem hlt) 3 (.string ⟨l[k].keep.toArray⟩) rfl
    obtain ⟨s, hs⟩ : ∃ s, s = l[k].keep := ⟨_, rfl⟩
    rw [<- hs] at c3
    have Hs := hHd hs
    clear hs hcell
    by_cases hb4 : 100 < s.length
    ·have hg : greatW l = true := by
      simp only [greatW, Bool.or_eq_true]
      right
      rw [List.any_eq_true]
      exact ⟨l[k], List.getElem_mem _, by rw [<- Hs.out]; simpa using hb4⟩
     have Hg := hHd hg
     clear hg
     go_wp2_with fail
     go_ret
     exact ⟨by rw [Hg.out]; rfl, rfl⟩
    ·go_wp2_with fail
     go_round
     case rel =>
      refine ⟨k + 1, by omega, by go_num, fun x hx => ?_⟩
      rw [take_snoc l k hlt] at hx
      rcases List.mem_append.1 hx with hx | hx
      ·exact Hx.out x hx
      ·have e := List.mem_singleton.1 hx
       rw [e, <- Hs.out]
       omega
     case measure => simp [intOf]; omega
   ·have hg : greatW l = false := by
     have h1 := Hx.out
     rw [List.take_of_length_le (by omega)] at h1
     simp only [greatW, Bool.or_eq_false_iff]
     refine ⟨hd, ?_⟩
     rw [List.any_eq_false]
     intro x hx
     have := h1 x hx
     simp
     omega
    have Hg := hHd hg
    clear hg
    go_wp2_with fail
    go_ret
    exact ⟨by rw [Hg.out]; rfl, rfl⟩
end
end Go.Proofs.YtepaeliamhjgiaaGreatDoor
