/- The law of pages, part 3 of 55: DkSet DkSetA DkLose. -/
import Derived.Test.YtepaeliamhjgiaaGreatDoorMu1
import Derived.Test.YtepaeliamhjgiaaGreatDoorMu2
set_option maxHeartbeats 16000000
set_option maxRecDepth 100000
namespace Go.Proofs.YtepaeliamhjgiaaGreatDoor
open Go.RowKit Go.Maps
theorem settle_bit {w : World} {b : Nat} {vs vw : Value} {gm : Nat} {d : Dm} (h : Dk w b vs vw gm d) (l : List UInt8) (hl : l.length <= maxLen) (p : Nat) (hp : w.cell? ⟨p, 0, none⟩ = some (.string ⟨l.toArray⟩)) (hpf : ¬ Ft b vs vw gm p) :
  Calls Tryz.prog 99 #[.pointer (some ⟨b, 0, none⟩), .func (.func 131) #[] #[.pointer (some ⟨p, 0, none⟩)]] w fun e w' => e = .returned (.tuple #[]) /\
   Dk w' b vs (.slice none 0 0) gm { d with on := settleL (bitOf l) d.on d.wait, wait := [] } /\ Kp (fun k => k = b \/ vs.ownBlock = some k \/ k = gm) w w' := by
 obtain ⟨gs, caps, rfl, hcs, hgs⟩ := h.st_form
 obtain ⟨aw, capw, rfl, hcw⟩ := h.wt_form
 obtain ⟨zw, zw1, zw2, zw3, zw4⟩ := zeroWr
 have hcl := h.ok.waits
 have Hn := hHd (show d.wait.length = d.wait.length from rfl)
 have c1 := h.c1
 have H := hHd h
 clear h hcs
 go_enter Tryz.func99, Tryz.ntmps99
 go_wp2_with fail
 go_loopw [11] (fun i wr => ∃ k : Nat, k <= d.wait.length /\ i = .int .i64 k /\
   wr.ownsRow 0 156 512 (.slice (some ⟨gs, 0, none⟩) d.on.length caps) d.on.length (onCells (settleL (bitOf l) d.on (d.wait.take k))) /\ Kp (fun q => q = gs) w wr)
  (fun i _ => d.wait.length - (intOf i).toNat)
 case atStart => exact ⟨0, Nat.zero_le _, rfl, H.out.st, Kp.refl _ _⟩
 case round =>
  obtain ⟨k, hk, rfl, hst, hkw⟩ := hrel
  have Hst := hHd hst
  have Hkw := hHd hkw
  clear hst hkw
  by_cases hlt : k < d.wait.length
  ·obtain ⟨gw, rfl⟩ : ∃ gw, aw = some ⟨gw, 0, none⟩ := by
    rcases H.out.wt.2 with ⟨_, h1⟩ | ⟨g, cap, cur, hv, _⟩
    ·omega
    ·injection hv with hA; exact ⟨g, hA⟩
   obtain ⟨x, hx⟩ : ∃ x, d.wait[k]? = some x := ⟨_, List.getElem?_eq_getElem hlt⟩
   have hxm : x ∈ d.wait := List.mem_of_getElem? hx
   have hx1 := H.out.ok.at_ x hxm
   have hx2 := H.out.ok.long x hxm
   have HX := hHd hx
   have hwr : wr.rangeAt gw (k * 513) (wrCells x) := by
    have h1 := down_kp H.out.wt Hkw.out (fun q e e2 => H.out.apart.2.2.2.2.2 q (by rw [e2]; rfl) e)
    exact own_range h1 _ (fun j v hj => waitCells_get _ H.out.ok.long k x HX.out j v hj)
   have Hwr := hHd hwr
   have HL := hHd hx2
   clear hx hwr hxm hx2
   go_wp2_with (first | (refine wpList_load_mid rfl 158 (.tmp 14) rfl gw _ rfl (wrCells x) _ Hwr.out Tryz.underlying158 rfl (by rw [wrCells_length x HL.out]; exact zw3) ?_) | (refine dwpList_store_box rfl 158 (.tmp 5) (.tmp 15) rfl wr.heap.size (wrCells x) rfl rfl (Box.new _ _ _) (by rw [zw2, wrCells_length x HL.out]) (by rw [wrCells_length x HL.out]; exact zw3) (wrCells_one x) ?_; intro w1 hb1 hk1) | fail)
   have kn : Kp (fun q => q = gs) wr w1 := ((Kp.refl _ wr).alloc _).trans_new hk1 (fun q e => .inl (by omega))
   have kw := Hkw.out.trans kn
   have hpw : w1.cell? ⟨p, 0, none⟩ = some (.string ⟨l.toArray⟩) := (kw.cell (p := ⟨p, 0, none⟩) (World.block_lt_of_cell? w _ hp) (fun e => hpf (.inr (.inl (by rw [show p = gs from e]; rfl))))).trans hp
   refine (lose1_any l k (by omega) hl w1 p hpw).mono ?_
   rintro e w2 ⟨rfl, rfl⟩
   have hgsw : gs < wr.heap.size := Nat.lt_of_lt_of_le hgs Hkw.out.size
   have hne : wr.heap.size ≠ gs := by omega
   have hst1 := down_kp Hst.out (show Kp (fun q => q = wr.heap.size) wr w1 from ((Kp.refl _ wr).alloc _).trans hk1) (fun q e e2 => hne (by simp [Value.ownBlock] at e; exact (e.trans e2).symm))
   have e0 : w1.cell? ⟨b, 0, none⟩ = some (.slice (some ⟨gs, 0, none⟩) d.on.length caps) := (kw.cell (p := ⟨b, 0, none⟩) H.out.box.lt (fun e => H.out.apart.1 (by rw [show b = gs from e]; rfl))).trans H.out.c0
   have e1 : w1.cell? ⟨wr.heap.size, 512, none⟩ = some (.int .i64 x.1) := by
    rw [hb1.cell]
    have : (bcs x.2).length = 512 := by rw [bcs_length]; exact HL.out
    simp [wrCells, this]
   have e2 : w1.rangeAt wr.heap.size 0 (bcs x.2) := by
    intro j v hj
    rw [hb1.cell, Nat.zero_add]
    have := (List.getElem?_eq_some_iff.1 hj).1
    simp [wrCells, List.getElem?_append_left this, hj]
   have hsnoc : d.wait.take (k + 1) = d.wait.take k ++ [x] := by rw [List.take_add_one, HX.out]; rfl
   have hlk : (d.wait.take k).length = k := by simp; omega
   have hset := settleL_snoc (bitOf l) d.on (d.wait.take k) x
   rw [<- hsnoc, hlk] at hset
   have HSET := hHd hset
   have Hst1 := hHd hst1
   have E2 := hHd e2
   have Kw := hHd kw
   clear hset hsnoc hlk hst1 e2 kw kn hpw hk1 hb1 hne
   cases hf : bitOf l k
   ·rw [hf] at HSET
    have hd := HSET.out
    rw [if_neg (by decide)] at hd
    have Hd := hHd hd
    clear hd HSET
    go_wp2_with fail
    go_roundw
    case rel => exact ⟨k + 1, by omega, by go_num, by rw [Hd.out]; exact Hst1.out, Kw.out⟩
    case measure => simp [intOf]; omega
   ·rw [hf] at HSET
    have hd := HSET.out
    rw [if_pos rfl] at hd
    have Hd := hHd hd
    clear hd HSET
    have hth : w1.there gs (x.1 * 512) 512 := own_there Hst1.out (x.1 * 512) 512 (by omega)
    have k2 : Kp (fun q => q = gs) w1.drew (w1.drew.setCells gs (x.1 * 512) (bcs x.2)) := Kp.setCells _ _ _ (Kp.refl _ _) (.inr rfl)
    have hst2 := own_set (w := w1.drew) Hst1.out (x.1 * 512) (bcs x.2) (by rw [bcs_length, HL.out]; omega)
    rw [bcs_length, HL.out] at hst2
    have hl3 : ∀ s ∈ settleL (bitOf l) d.on (d.wait.take k), s.length = 512 := settleL_each _ _ _ 512 H.out.ok.each fun y hy => H.out.ok.long y (List.mem_of_mem_take hy)
    rw [<- onCells_set _ hl3 x.1 (by rw [settleL_length]; exact hx1) x.2 HL.out, <- Hd.out] at hst2
    have hgb : b ≠ gs := fun e => H.out.apart.1 (by rw [e]; rfl)
    have hne : wr.heap.size ≠ gs := by omega
    have hlen : (bcs x.2).length = 512 := by rw [bcs_length]; exact HL.out
    have hone := bcs_one x.2
    have f0 : (w1.drew.setCells gs (x.1 * 512) (bcs x.2)).cell? ⟨b, 0, none⟩ = some (.slice (some ⟨gs, 0, none⟩) d.on.length caps) := (k2.cell (p := ⟨b, 0, none⟩) (World.block_lt_of_cell? w1 _ e0) hgb).trans e0
    have f1 : (w1.drew.setCells gs (x.1 * 512) (bcs x.2)).cell? ⟨wr.heap.size, 512, none⟩ = some (.int .i64 x.1) := (k2.cell (p := ⟨wr.heap.size, 512, none⟩) (World.block_lt_of_cell? w1 _ e1) hne).trans e1
    have f2 : (w1.drew.setCells gs (x.1 * 512) (bcs x.2)).rangeAt wr.heap.size 0 (bcs x.2) := fun j v hj => (k2.cell (p := ⟨wr.heap.size, 0 + j, none⟩) (World.block_lt_of_cell? w1 _ (E2.out j v hj)) hne).trans (E2.out j v hj)
    have f3 : (w1.drew.setCells gs (x.1 * 512) (bcs x.2)).there gs (x.1 * 512) 512 := own_there (xs := onCells (settleL (bitOf l) d.on (d.wait.take (k + 1)))) hst2 (x.1 * 512) 512 (by omega)
    have e2 := E2.out
    have F := hHd (And.intro f0 (And.intro f1 (And.intro f2 f3)))
    have Hst2 := hHd hst2
    have K2 := hHd k2
    have hu := Tryz.underlying156
    have hi : (Tryz.prog.info? 156).map (·.size) = some (bcs x.2).length := by rw [hlen]; exact infoSec
    have hx0 : (0 : Int) <= (x.1 : Int) := by omega
    have hx1' : (x.1 : Int) < (d.on.length : Int) := by omega
    clear f0 f1 f2 f3 hst2 k2 hl3 hgb hne
    go_wp2_with fail
    go_region_held3 (fun v => v.cell? ⟨b, 0, none⟩ = some (.slice (some ⟨gs, 0, none⟩) d.on.length caps) /\ v.cell? ⟨wr.heap.size, 512, none⟩ = some (.int .i64 x.1) /\ v.rangeAt wr.heap.size 0 (bcs x.2) /\ v.there gs (x.1 * 512) 512)
     (first | exact ⟨e0, e1, e2, hth⟩ | exact F.out) (fail)
    all_goals
     have Hst3 := Hst2.out
     have K3 := K2.out
     clear e0 e1 e2 hth F Hst2 K2
     have Kw2 := hHd (Kw.out.trans ((Kp.refl _ w1).drew.trans K3))
     have Hst4 := hHd Hst3
     clear Hst3 K3 hone hlen hi hu
     go_wp2_with fail
     go_roundw
     case rel => exact ⟨k + 1, by omega, by go_num, Hst4.out, Kw2.out⟩
     case measure => simp [intOf]; omega
  ·obtain rfl : k = d.wait.length := by omega
   rw [List.take_length] at Hst
   have e0 : wr.cell? ⟨b, 1, none⟩ = some (.slice aw d.wait.length capw) := (Hkw.out.cell (p := ⟨b, 1, none⟩) H.out.box.lt (fun e => H.out.apart.1 (by rw [show b = gs from e]; rfl))).trans H.out.c1
   have hbx := H.out.box.kp Hkw.out (fun e => H.out.apart.1 (by rw [show b = gs from e]; rfl))
   have hnm := H.out.nm.kp Hkw.out (fun e => H.out.apart.2.2.2.1 (by rw [show gm = gs from e]; rfl))
   have hnm2 := hnm.kp (Kp.one wr b 1 (.slice none 0 0)) H.out.apart.2.2.1
   have hbx2 := hbx.put 1 (.slice none 0 0)
   have hfr := hbx.free 1
   have Hb2 := hHd hbx2
   have Hnm2 := hHd hnm2
   have c2' : (wr.setCell ⟨b, 1, none⟩ (.slice none 0 0)).cell? ⟨b, 2, none⟩ = some (.map (some gm)) := hbx2.cell 2
   clear hbx hnm hnm2 hbx2
   go_wp2_with (refine wpList_clear rfl (.tmp 35) rfl gm _ rfl Hnm2.out ?_; intro w3 hn3 hk3)
   go_end0
   have kd : Kp (fun k => k = b \/ (Value.slice (some ⟨gs, 0, none⟩) d.on.length caps).ownBlock = some k \/ k = gm) w w3 :=
    (((Hkw.out.mono fun q _ e => .inr (.inl (by rw [show q = gs from e]; rfl))).setCell (p := ⟨b, 1, none⟩) (.inr (.inl rfl)) _)).trans (hk3.mono fun q _ e => .inr (.inr e))
   have hgb : gs ≠ b := fun e => H.out.apart.1 (by rw [<- e]; rfl)
   have hgm : gs ≠ gm := fun e => H.out.apart.2.2.2.1 (by rw [<- e]; rfl)
   have hst3 := down_kp (down_kp Hst.out (Kp.one wr b 1 (.slice none 0 0)) (fun q e e2 => hgb (by simp [Value.ownBlock] at e; exact e.trans e2))) hk3 (fun q e e2 => hgm (by simp [Value.ownBlock] at e; exact e.trans e2))
   have hl3 : ∀ s ∈ settleL (bitOf l) d.on d.wait, s.length = 512 := settleL_each _ _ _ 512 H.out.ok.each H.out.ok.long
   have ok := H.out.ok
   refine ⟨rfl, ⟨⟨by simpa [settleL_length] using ok.few, by simpa [settleL_length] using ok.some, hl3, by simp, by simp, by simp, ok.left_, ok.acts_, ok.keep_⟩, ?_, ?_, World.ownsRow_nil _ _ _ _, hn3⟩, kd⟩
   ·exact Hb2.out.kp hk3 (fun e => H.out.apart.2.2.1 e.symm)
   ·simpa [settleL_length] using hst3
theorem settle_all {w : World} {b : Nat} {vs vw : Value} {gm : Nat} {d : Dm} (h : Dk w b vs vw gm d) :
  Calls Tryz.prog 99 #[.pointer (some ⟨b, 0, none⟩), .func (.func 100) #[] #[]] w fun e w' => e = .returned (.tuple #[]) /\
   Dk w' b vs (.slice none 0 0) gm { d with on := settleL (fun _ => true) d.on d.wait, wait := [] } /\ Kp (fun k => k = b \/ vs.ownBlock = some k \/ k = gm) w w' := by
 obtain ⟨gs, caps, rfl, hcs, hgs⟩ := h.st_form
 obtain ⟨aw, capw, rfl, hcw⟩ := h.wt_form
 obtain ⟨zw, zw1, zw2, zw3, zw4⟩ := zeroWr
 have hcl := h.ok.waits
 have Hn := hHd (show d.wait.length = d.wait.length from rfl)
 have c1 := h.c1
 have H := hHd h
 clear h hcs
 go_enter Tryz.func99, Tryz.ntmps99
 go_wp2_with fail
 go_loopw [11] (fun i wr => ∃ k : Nat, k <= d.wait.length /\ i = .int .i64 k /\
   wr.ownsRow 0 156 512 (.slice (some ⟨gs, 0, none⟩) d.on.length caps) d.on.length (onCells (settleL (fun _ => true) d.on (d.wait.take k))) /\ Kp (fun q => q = gs) w wr)
  (fun i _ => d.wait.length - (intOf i).toNat)
 case atStart => exact ⟨0, Nat.zero_le _, rfl, H.out.st, Kp.refl _ _⟩
 case round =>
  obtain ⟨k, hk, rfl, hst, hkw⟩ := hrel
  have Hst := hHd hst
  have Hkw := hHd hkw
  clear hst hkw
  by_cases hlt : k < d.wait.length
  ·obtain ⟨gw, rfl⟩ : ∃ gw, aw = some ⟨gw, 0, none⟩ := by
    rcases H.out.wt.2 with ⟨_, h1⟩ | ⟨g, cap, cur, hv, _⟩
    ·omega
    ·injection hv with hA; exact ⟨g, hA⟩
   obtain ⟨x, hx⟩ : ∃ x, d.wait[k]? = some x := ⟨_, List.getElem?_eq_getElem hlt⟩
   have hxm : x ∈ d.wait := List.mem_of_getElem? hx
   have hx1 := H.out.ok.at_ x hxm
   have hx2 := H.out.ok.long x hxm
   have HX := hHd hx
   have hwr : wr.rangeAt gw (k * 513) (wrCells x) := by
    have h1 := down_kp H.out.wt Hkw.out (fun q e e2 => H.out.apart.2.2.2.2.2 q (by rw [e2]; rfl) e)
    exact own_range h1 _ (fun j v hj => waitCells_get _ H.out.ok.long k x HX.out j v hj)
   have Hwr := hHd hwr
   have HL := hHd hx2
   clear hx hwr hxm hx2
   go_wp2_with (first | (refine wpList_load_mid rfl 158 (.tmp 14) rfl gw _ rfl (wrCells x) _ Hwr.out Tryz.underlying158 rfl (by rw [wrCells_length x HL.out]; exact zw3) ?_) | (refine dwpList_store_box rfl 158 (.tmp 5) (.tmp 15) rfl wr.heap.size (wrCells x) rfl rfl (Box.new _ _ _) (by rw [zw2, wrCells_length x HL.out]) (by rw [wrCells_length x HL.out]; exact zw3) (wrCells_one x) ?_; intro w1 hb1 hk1) | fail)
   have kn : Kp (fun q => q = gs) wr w1 := ((Kp.refl _ wr).alloc _).trans_new hk1 (fun q e => .inl (by omega))
   have kw := Hkw.out.trans kn
   refine (flush1_any k w1).mono ?_
   rintro e w2 ⟨rfl, rfl⟩
   have hgsw : gs < wr.heap.size := Nat.lt_of_lt_of_le hgs Hkw.out.size
   have hne : wr.heap.size ≠ gs := by omega
   have hst1 := down_kp Hst.out (show Kp (fun q => q = wr.heap.size) wr w1 from ((Kp.refl _ wr).alloc _).trans hk1) (fun q e e2 => hne (by simp [Value.ownBlock] at e; exact (e.trans e2).symm))
   have e0 : w1.cell? ⟨b, 0, none⟩ = some (.slice (some ⟨gs, 0, none⟩) d.on.length caps) := (kw.cell (p := ⟨b, 0, none⟩) H.out.box.lt (fun e => H.out.apart.1 (by rw [show b = gs from e]; rfl))).trans H.out.c0
   have e1 : w1.cell? ⟨wr.heap.size, 512, none⟩ = some (.int .i64 x.1) := by
    rw [hb1.cell]
    have : (bcs x.2).length = 512 := by rw [bcs_length]; exact HL.out
    simp [wrCells, this]
   have e2 : w1.rangeAt wr.heap.size 0 (bcs x.2) := by
    intro j v hj
    rw [hb1.cell, Nat.zero_add]
    have := (List.getElem?_eq_some_iff.1 hj).1
    simp [wrCells, List.getElem?_append_left this, hj]
   have hsnoc : d.wait.take (k + 1) = d.wait.take k ++ [x] := by rw [List.take_add_one, HX.out]; rfl
   have hlk : (d.wait.take k).length = k := by simp; omega
   have hset := settleL_snoc (fun _ => true) d.on (d.wait.take k) x
   rw [<- hsnoc, if_pos rfl] at hset
   have HSET := hHd hset
   have Hst1 := hHd hst1
   have E2 := hHd e2
   have Kw := hHd kw
   clear hset hsnoc hlk hst1 e2 kw kn hk1 hb1 hne
   ·have hd := HSET.out
    have Hd := hHd hd
    clear hd HSET
    have hth : w1.there gs (x.1 * 512) 512 := own_there Hst1.out (x.1 * 512) 512 (by omega)
    have k2 : Kp (fun q => q = gs) w1.drew (w1.drew.setCells gs (x.1 * 512) (bcs x.2)) := Kp.setCells _ _ _ (Kp.refl _ _) (.inr rfl)
    have hst2 := own_set (w := w1.drew) Hst1.out (x.1 * 512) (bcs x.2) (by rw [bcs_length, HL.out]; omega)
    rw [bcs_length, HL.out] at hst2
    have hl3 : ∀ s ∈ settleL (fun _ => true) d.on (d.wait.take k), s.length = 512 := settleL_each _ _ _ 512 H.out.ok.each fun y hy => H.out.ok.long y (List.mem_of_mem_take hy)
    rw [<- onCells_set _ hl3 x.1 (by rw [settleL_length]; exact hx1) x.2 HL.out, <- Hd.out] at hst2
    have hgb : b ≠ gs := fun e => H.out.apart.1 (by rw [e]; rfl)
    have hne : wr.heap.size ≠ gs := by omega
    have hlen : (bcs x.2).length = 512 := by rw [bcs_length]; exact HL.out
    have hone := bcs_one x.2
    have f0 : (w1.drew.setCells gs (x.1 * 512) (bcs x.2)).cell? ⟨b, 0, none⟩ = some (.slice (some ⟨gs, 0, none⟩) d.on.length caps) := (k2.cell (p := ⟨b, 0, none⟩) (World.block_lt_of_cell? w1 _ e0) hgb).trans e0
    have f1 : (w1.drew.setCells gs (x.1 * 512) (bcs x.2)).cell? ⟨wr.heap.size, 512, none⟩ = some (.int .i64 x.1) := (k2.cell (p := ⟨wr.heap.size, 512, none⟩) (World.block_lt_of_cell? w1 _ e1) hne).trans e1
    have f2 : (w1.drew.setCells gs (x.1 * 512) (bcs x.2)).rangeAt wr.heap.size 0 (bcs x.2) := fun j v hj => (k2.cell (p := ⟨wr.heap.size, 0 + j, none⟩) (World.block_lt_of_cell? w1 _ (E2.out j v hj)) hne).trans (E2.out j v hj)
    have f3 : (w1.drew.setCells gs (x.1 * 512) (bcs x.2)).there gs (x.1 * 512) 512 := own_there (xs := onCells (settleL (fun _ => true) d.on (d.wait.take (k + 1)))) hst2 (x.1 * 512) 512 (by omega)
    have e2 := E2.out
    have F := hHd (And.intro f0 (And.intro f1 (And.intro f2 f3)))
    have Hst2 := hHd hst2
    have K2 := hHd k2
    have hu := Tryz.underlying156
    have hi : (Tryz.prog.info? 156).map (·.size) = some (bcs x.2).length := by rw [hlen]; exact infoSec
    have hx0 : (0 : Int) <= (x.1 : Int) := by omega
    have hx1' : (x.1 : Int) < (d.on.length : Int) := by omega
    clear f0 f1 f2 f3 hst2 k2 hl3 hgb hne
    go_wp2_with fail
    go_region_held3 (fun v => v.cell? ⟨b, 0, none⟩ = some (.slice (some ⟨gs, 0, none⟩) d.on.length caps) /\ v.cell? ⟨wr.heap.size, 512, none⟩ = some (.int .i64 x.1) /\ v.rangeAt wr.heap.size 0 (bcs x.2) /\ v.there gs (x.1 * 512) 512)
     (first | exact ⟨e0, e1, e2, hth⟩ | exact F.out) (fail)
    all_goals
     have Hst3 := Hst2.out
     have K3 := K2.out
     clear e0 e1 e2 hth F Hst2 K2
     have Kw2 := hHd (Kw.out.trans ((Kp.refl _ w1).drew.trans K3))
     have Hst4 := hHd Hst3
     clear Hst3 K3 hone hlen hi hu
     go_wp2_with fail
     go_roundw
     case rel => exact ⟨k + 1, by omega, by go_num, Hst4.out, Kw2.out⟩
     case measure => simp [intOf]; omega
  ·obtain rfl : k = d.wait.length := by omega
   rw [List.take_length] at Hst
   have e0 : wr.cell? ⟨b, 1, none⟩ = some (.slice aw d.wait.length capw) := (Hkw.out.cell (p := ⟨b, 1, none⟩) H.out.box.lt (fun e => H.out.apart.1 (by rw [show b = gs from e]; rfl))).trans H.out.c1
   have hbx := H.out.box.kp Hkw.out (fun e => H.out.apart.1 (by rw [show b = gs from e]; rfl))
   have hnm := H.out.nm.kp Hkw.out (fun e => H.out.apart.2.2.2.1 (by rw [show gm = gs from e]; rfl))
   have hnm2 := hnm.kp (Kp.one wr b 1 (.slice none 0 0)) H.out.apart.2.2.1
   have hbx2 := hbx.put 1 (.slice none 0 0)
   have hfr := hbx.free 1
   have Hb2 := hHd hbx2
   have Hnm2 := hHd hnm2
   have c2' : (wr.setCell ⟨b, 1, none⟩ (.slice none 0 0)).cell? ⟨b, 2, none⟩ = some (.map (some gm)) := hbx2.cell 2
   clear hbx hnm hnm2 hbx2
   go_wp2_with (refine wpList_clear rfl (.tmp 35) rfl gm _ rfl Hnm2.out ?_; intro w3 hn3 hk3)
   go_end0
   have kd : Kp (fun k => k = b \/ (Value.slice (some ⟨gs, 0, none⟩) d.on.length caps).ownBlock = some k \/ k = gm) w w3 :=
    (((Hkw.out.mono fun q _ e => .inr (.inl (by rw [show q = gs from e]; rfl))).setCell (p := ⟨b, 1, none⟩) (.inr (.inl rfl)) _)).trans (hk3.mono fun q _ e => .inr (.inr e))
   have hgb : gs ≠ b := fun e => H.out.apart.1 (by rw [<- e]; rfl)
   have hgm : gs ≠ gm := fun e => H.out.apart.2.2.2.1 (by rw [<- e]; rfl)
   have hst3 := down_kp (down_kp Hst.out (Kp.one wr b 1 (.slice none 0 0)) (fun q e e2 => hgb (by simp [Value.ownBlock] at e; exact e.trans e2))) hk3 (fun q e e2 => hgm (by simp [Value.ownBlock] at e; exact e.trans e2))
   have hl3 : ∀ s ∈ settleL (fun _ => true) d.on d.wait, s.length = 512 := settleL_each _ _ _ 512 H.out.ok.each H.out.ok.long
   have ok := H.out.ok
   refine ⟨rfl, ⟨⟨by simpa [settleL_length] using ok.few, by simpa [settleL_length] using ok.some, hl3, by simp, by simp, by simp, ok.left_, ok.acts_, ok.keep_⟩, ?_, ?_, World.ownsRow_nil _ _ _ _, hn3⟩, kd⟩
   ·exact Hb2.out.kp hk3 (fun e => H.out.apart.2.2.1 e.symm)
   ·simpa [settleL_length] using hst3
def Tn (b : Nat) (vs : Value) (gm k : Nat) : Prop := k = b \/ vs.ownBlock = some k \/ k = gm
theorem ok_lose {d : Dm} (h : d.ok) (l : List UInt8) : (d.lose l).ok :=
 ⟨by simpa [Dm.lose, settleL_length] using h.few, by simpa [Dm.lose, settleL_length] using h.some, settleL_each (bitOf l) _ _ 512 h.each h.long, by simp [Dm.lose], by simp [Dm.lose], by simp [Dm.lose], by simp [Dm.lose], h.acts_, by simp [Dm.lose]⟩
theorem ok_act {d : Dm} (h : d.ok) : d.act.ok :=
 ⟨h.few, h.some, h.each, h.at_, h.long, h.waits, by have := h.left_; unfold Dm.act; dsimp only; split <;> omega, by unfold Dm.act; dsimp only; omega, h.keep_⟩
theorem u64_next (n : Nat) : IntKind.u64.wrap ((n : Int) + 1) = (((n + 1) % 18446744073709551616 : Nat) : Int) := by
 simp [IntKind.wrap, IntKind.signed, IntKind.bits]
section
variable {w : World} {b : Nat} {vs vw : Value} {gm : Nat} {d : Dm}
theorem Dk.turn {d' : Dm} {W : World} (h : Dk w b vs vw gm d) (ok : d'.ok) (hb : Box W b 97 (dcs d' vs vw gm)) (h1 : d'.on = d.on) (h2 : d'.wait = d.wait) (hk : Kp (fun k => k = b) w W) : Dk W b vs vw gm d' := by
 have ap := h.apart
 refine ⟨ok, hb, ?_, ?_, ?_⟩
 ·rw [h1]; exact down_kp h.st hk (fun k e e2 => ap.1 (by rw [e, show k = b from e2]))
 ·rw [h2]; exact down_kp h.wt hk (fun k e e2 => ap.2.1 (by rw [e, show k = b from e2]))
 ·rw [h2]; exact h.nm.kp hk ap.2.2.1
theorem Dk.alloc (h : Dk w b vs vw gm d) (o : Obj) : Dk (w.alloc o) b vs vw gm d := h.kp ((Kp.refl (fun _ => False) w).alloc o) (fun _ _ h => h)
theorem Dk.drewN (h : Dk w b vs vw gm d) (n : Nat) : Dk (w.drewN n) b vs vw gm d := h.kp ((Kp.refl (fun _ => False) w).drewN n) (fun _ _ h => h)
theorem lose_any (h : Dk w b vs vw gm d) (l : List UInt8) (hl : l.length <= maxLen) :
  Calls Tryz.prog 80 #[.pointer (some ⟨b, 0, none⟩), .string ⟨l.toArray⟩] w fun e w' => e = .returned (.tuple #[]) /\ Dk w' b vs (.slice none 0 0) gm (d.lose l) /\ Kp (Tn b vs gm) w w' := by
 have hmf : ∀ (fn : Fn) (first cap : Array Value) (w : World), (Instr.makeFunc fn first cap).run Tryz.prog w = .ok (.func fn first cap) w := fun _ _ _ _ => rfl
 have hset := settle_bit (h.alloc (.cells #[.string ⟨l.toArray⟩] 9)) l hl w.heap.size ((Box.new w 9 #[.string ⟨l.toArray⟩]).cell 0) (fun e => Nat.lt_irrefl _ (h.lt _ e))
 have ok := ok_lose h.ok l
 have H := hHd h
 clear h
 go_enter Tryz.func80, Tryz.ntmps80
 go_wp2_with fail
 refine hset.mono ?_
 rintro e w1 ⟨rfl, h1, k1⟩
 clear hset
 have hb1 := h1.box
 have f3 := hb1.free 3
 have f4 := hb1.free 4
 have f5 := hb1.free 5
 have f6 := hb1.free 6
 have e3 := h1.c3
 have e4 := h1.c4
 have e5 := h1.c5
 have e6 := h1.c6
 dsimp only at e3 e4 e5 e6
 have H1 := hHd h1
 have K1 := hHd k1
 clear h1 k1 hb1
 go_wp2_with fail
 go_end0
 refine ⟨rfl, H1.out.turn (d' := d.lose l) ok ?_ rfl rfl ?_, ?_⟩
 ·exact ((((H1.out.box.put 3 (.bool false)).put 4 (.bool false)).put 5 (.int .i64 0)).put 6 (.string ⟨#[]⟩))
 ·exact (((((Kp.refl (fun k => k = b) w1).setCell (.inr rfl) _).setCell (.inr rfl) _).setCell (.inr rfl) _).setCell (.inr rfl) _)
 ·have k0 := ((Kp.refl (Tn b vs gm) w).alloc (.cells #[.string ⟨l.toArray⟩] 9)).trans K1.out
  exact (((k0.setCell (.inr (.inl rfl)) _).setCell (.inr (.inl rfl)) _).setCell (.inr (.inl rfl)) _).setCell (.inr (.inl rfl)) _
theorem act_out (h : Dk w b vs vw gm d) (ho : d.out = true) :
  Calls Tryz.prog 98 #[.pointer (some ⟨b, 0, none⟩)] w fun e w' => e = .returned (.int .i64 4) /\ Dk w' b vs (.slice none 0 0) gm (d.lose d.keep) /\ Kp (Tn b vs gm) w w' := by
 obtain ⟨hl, h0⟩ : d.lit = true /\ d.left = 0 := by simpa [Dm.out] using ho
 have e4 := h.c4
 have e5 := h.c5
 have e6 := h.c6
 rw [hl] at e4
 rw [h0] at e5
 have hk := h.ok.keep_
 have H := hHd h
 clear h ho hl h0
 go_enter Tryz.func98, Tryz.ntmps98
 go_wp2_with fail
 refine (lose_any H.out d.keep hk).mono ?_
 rintro e w1 ⟨rfl, h1, k1⟩
 have H1 := hHd h1
 have K1 := hHd k1
 clear h1 k1
 go_wp2_with fail
 go_ret
 exact ⟨rfl, H1.out, K1.out⟩
theorem act_ok (h : Dk w b vs vw gm d) (ho : d.out = false) :
  Calls Tryz.prog 98 #[.pointer (some ⟨b, 0, none⟩)] w fun e w' => e = .returned (.int .i64 0) /\ Dk w' b vs vw gm d.act /\ Kp (fun k => k = b) w w' := by
 have ok := ok_act h.ok
 have e4 := h.c4
 have e5 := h.c5
 have e7 := h.c7
 have f5 := h.box.free 5
 have f7 := h.box.free 7
 have ha := h.ok.acts_
 have hf := h.ok.left_
 have H := hHd h
 clear h
 have hx : Dm.act d = { d with left := if d.lit then d.left - 1 else d.left, acts := (d.acts + 1) % 18446744073709551616 } := rfl
 have HX := hHd hx
 clear hx
 rcases hl : d.lit with _ | _
 ·rw [hl] at e4 HX
  have HL := hHd hl
  clear hl ho
  go_enter Tryz.func98, Tryz.ntmps98
  go_wp2_with fail
  go_ret
  refine ⟨rfl, H.out.turn ok ?_ rfl rfl (Kp.one _ _ _ _), Kp.one _ _ _ _⟩
  have hb := H.out.box.put 7 (.int .u64 (IntKind.u64.wrap (d.acts + 1)))
  have e : dcs d.act vs vw gm = (dcs d vs vw gm).setIfInBounds 7 (.int .u64 (IntKind.u64.wrap (d.acts + 1))) := by
   rw [HX.out, u64_next]
   simp [dcs, HL.out]
  rw [e]
  exact hb
 ·have h0 : d.left ≠ 0 := by simpa [Dm.out, hl] using ho
  rw [hl] at e4 HX
  have HL := hHd hl
  have hd : (((d.left : Nat) : Int) == 0) = false := by simpa using h0
  have h1 : (1 : Int) <= (d.left : Int) := by omega
  have hf' : (d.left : Int) < 9223372036854775808 := by omega
  clear hl ho h0
  go_enter Tryz.func98, Tryz.ntmps98
  go_wp2_with fail
  go_ret
  have k2 := (Kp.one w b 5 (.int .i64 (d.left - 1))).trans (Kp.one _ b 7 (.int .u64 (IntKind.u64.wrap (d.acts + 1))))
  refine ⟨rfl, H.out.turn ok ?_ rfl rfl k2, k2⟩
  have hb := (H.out.box.put 5 (.int .i64 (d.left - 1))).put 7 (.int .u64 (IntKind.u64.wrap (d.acts + 1)))
  have e : dcs d.act vs vw gm = ((dcs d vs vw gm).setIfInBounds 5 (.int .i64 (d.left - 1))).setIfInBounds 7 (.int .u64 (IntKind.u64.wrap (d.acts + 1))) := by
   have hc : ((d.left - 1 : Nat) : Int) = (d.left : Int) - 1 := by omega
   rw [HX.out, u64_next, <- hc]
   simp [dcs, HL.out]
  rw [e]
  exact hb
end
end Go.Proofs.YtepaeliamhjgiaaGreatDoor
