/- What the reader of a child gives, whatever the opener's state. No condition. -/
import Derived.Test.YtoonihhjdmkflaaChPut
import Derived.Test.YtoonihhjdmkflaaOpi
namespace Go.Proofs.Ytoonihhjdmkflaa
open Go.RowKit

theorem zero_kid : (#[Value.string { data := #[] }, Value.bool false, Value.int IntKind.u8 0, Value.int IntKind.u8 0, Value.int IntKind.u8 0, Value.int IntKind.u8 0, Value.int IntKind.u8 0, Value.int IntKind.u8 0, Value.int IntKind.u8 0, Value.int IntKind.u8 0, Value.int IntKind.u8 0, Value.int IntKind.u8 0, Value.int IntKind.u8 0, Value.int IntKind.u8 0, Value.int IntKind.u8 0, Value.int IntKind.u8 0, Value.int IntKind.u8 0, Value.int IntKind.u8 0, Value.int IntKind.u8 0, Value.int IntKind.u8 0, Value.int IntKind.u8 0, Value.int IntKind.u8 0, Value.int IntKind.u8 0, Value.int IntKind.u8 0, Value.int IntKind.u8 0, Value.int IntKind.u8 0, Value.int IntKind.u8 0, Value.int IntKind.u8 0, Value.int IntKind.u8 0, Value.int IntKind.u8 0, Value.int IntKind.u8 0, Value.int IntKind.u8 0, Value.int IntKind.u8 0, Value.int IntKind.u8 0, Value.int IntKind.u8 0, Value.int IntKind.u32 0] : Array Value) = (kcs kd0).toArray := rfl
theorem zero_ck : (#[Value.int IntKind.u8 0, Value.string ⟨#[]⟩, Value.slice none 0 0] : Array Value) = ccs ck0 none 0 := rfl
theorem kcs_setName (k : Kd) (s : ByteArray) : (kcs k).toArray.setIfInBounds 0 (.string s) = (kcs { k with name := s }).toArray := by
  rw [List.setIfInBounds_toArray]
  simp [kcs]
theorem kcs_setDir (k : Kd) (d : Bool) : (kcs k).toArray.setIfInBounds 1 (.bool d) = (kcs { k with dir := d }).toArray := by
  rw [List.setIfInBounds_toArray]
  simp [kcs]
theorem kcs_setHt (k : Kd) (hk : k.hash.length = 32) (n : Nat) : (kcs k).toArray.setIfInBounds 34 (.int .u8 n) = (kcs { k with ht := n }).toArray := by
  rw [List.setIfInBounds_toArray]
  have hb : (bcs k.hash).length = 32 := by rw [bcs_length, hk]
  unfold kcs
  rw [List.set_append_right _ _ (by simp), List.set_append_right _ _ (by rw [hb]; simp), hb]
  rfl
theorem kcs_setSz (k : Kd) (hk : k.hash.length = 32) (n : Nat) : (kcs k).toArray.setIfInBounds 35 (.int .u32 n) = (kcs { k with sz := n }).toArray := by
  rw [List.setIfInBounds_toArray]
  have hb : (bcs k.hash).length = 32 := by rw [bcs_length, hk]
  unfold kcs
  rw [List.set_append_right _ _ (by simp), List.set_append_right _ _ (by rw [hb]; simp), hb]
  rfl
/-- A child's hash, stored. -/
theorem kcs_setHash {w : World} {g : Nat} {t : TypeId} {k : Kd} (hb : Box w g t (kcs k).toArray) (hk : k.Ok) (h : List UInt8) (hh : h.length = 32) : Box (w.setCells g 2 (bcs h)) g t (kcs { k with hash := h }).toArray := by
  have := Box.writes (bcs h) 2 w (kcs k) hb (by rw [kcs_len hk, bcs_length, hh]; omega)
  have e1 : (kcs k).take 2 = [.string k.name, .bool k.dir] := rfl
  have e2 : (kcs k).drop (2 + (bcs h).length) = [.int .u8 k.ht, .int .u32 k.sz] := by
    rw [bcs_length, hh]
    have : (kcs k).drop 2 = bcs k.hash ++ [.int .u8 k.ht, .int .u32 k.sz] := rfl
    rw [← List.drop_drop, this, List.drop_append_of_le_length (by rw [bcs_length, hk.1]; exact Nat.le_refl _), List.drop_eq_nil_of_le (by rw [bcs_length, hk.1]; exact Nat.le_refl _)]
    rfl
  rw [e1, e2] at this
  simpa [kcs] using this
theorem Box.thereAt {w : World} {g : Nat} {t : TypeId} {L : List Value} (h : Box w g t L.toArray) (o n : Nat) (hn : o + n ≤ L.length) : w.there g o n := fun j hj => by
  rw [h.cell, h.free]
  refine ⟨?_, rfl⟩
  simp only [List.getElem?_toArray]
  rw [List.getElem?_eq_getElem (by omega)]
  rfl
def KX (X : Nat → Prop) (g : Nat) (k : Nat) : Prop := X k ∨ k = g ∨ k = g + 1

/-- A child under way: the opener, the result's variable and the child's. -/
structure Ku (B b : Nat) (X : Nat → Prop) (w v : World) (k : Kd) (s : List UInt8 × Bool) : Prop where
  o : Oi B (KX X w.heap.size) v b s
  r : Box v w.heap.size 46 (kcs kd0).toArray
  x : Box v (w.heap.size + 1) 46 (kcs k).toArray
  ok : k.Ok
  kp : Kp (fun k => k = b) w v
  lt : b < w.heap.size
  hx : ∀ k, X k → k < w.heap.size
  hb : B ≤ w.heap.size
section
variable {B b : Nat} {X : Nat → Prop} {w v v' : World} {k : Kd} {s s' : List UInt8 × Bool}
theorem Ku.xlt (h : Ku B b X w v k s) : ∀ k, KX X w.heap.size k → k < v.heap.size := fun k e => by
  have h1 := h.r.lt
  have h2 := h.x.lt
  rcases e with e | e | e
  · have := h.hx k e; omega
  · omega
  · omega
theorem Ku.ble (h : Ku B b X w v k s) : B ≤ v.heap.size := Nat.le_trans h.hb h.kp.size
theorem Ku.call (h : Ku B b X w v k s) (hk : Kp (fun k => k = b) v v') (ho : Oi B (KX X w.heap.size) v' b s') : Ku B b X w v' k s' :=
  ⟨ho, h.r.kp hk (fun e => by have := h.lt; omega), h.x.kp hk (fun e => by have := h.lt; omega), h.ok, h.kp.trans hk, h.lt, h.hx, h.hb⟩
theorem Ku.turn {k' : Kd} (h : Ku B b X w v k s) (hk : Kp (fun k => k = w.heap.size + 1) v v') (hx : Box v' (w.heap.size + 1) 46 (kcs k').toArray) (ok : k'.Ok) : Ku B b X w v' k' s :=
  ⟨h.o.step hk (fun k e => .inl (.inr (.inr e))) (fun k e => .inl e), h.r.kp hk (by omega), hx, ok, h.kp.trans_new hk (fun b e => .inl (by omega)), h.lt, h.hx, h.hb⟩
theorem Ku.setDir (h : Ku B b X w v k s) (d : Bool) : Ku B b X w (v.setCell ⟨w.heap.size + 1, 1, none⟩ (.bool d)) { k with dir := d } s :=
  h.turn (Kp.one _ _ _ _) (by rw [← kcs_setDir]; exact h.x.put 1 _) h.ok
theorem Ku.setName (h : Ku B b X w v k s) (d : ByteArray) : Ku B b X w (v.setCell ⟨w.heap.size + 1, 0, none⟩ (.string d)) { k with name := d } s :=
  h.turn (Kp.one _ _ _ _) (by rw [← kcs_setName]; exact h.x.put 0 _) h.ok
theorem Ku.setHt (h : Ku B b X w v k s) (d : Nat) (hd : d < 256) : Ku B b X w (v.setCell ⟨w.heap.size + 1, 34, none⟩ (.int .u8 d)) { k with ht := d } s :=
  h.turn (Kp.one _ _ _ _) (by rw [← kcs_setHt k h.ok.1]; exact h.x.put 34 _) ⟨h.ok.1, hd, h.ok.2.2⟩
theorem Ku.setSz (h : Ku B b X w v k s) (d : Nat) (hd : d < 4294967296) : Ku B b X w (v.setCell ⟨w.heap.size + 1, 35, none⟩ (.int .u32 d)) { k with sz := d } s :=
  h.turn (Kp.one _ _ _ _) (by rw [← kcs_setSz k h.ok.1]; exact h.x.put 35 _) ⟨h.ok.1, h.ok.2.1, hd⟩
theorem Ku.setHash (h : Ku B b X w v k s) (d : List UInt8) (hd : d.length = 32) : Ku B b X w (v.setCells (w.heap.size + 1) 2 (bcs d)) { k with hash := d } s :=
  h.turn (Kp.setCells _ _ _ (Kp.refl _ _) (.inr rfl)) (kcs_setHash h.x h.ok d hd) ⟨hd, h.ok.2.1, h.ok.2.2⟩
/-- What the child's cells say. -/
theorem Ku.cells (h : Ku B b X w v k s) : v.cell? ⟨w.heap.size + 1, 0, none⟩ = some (.string k.name) ∧ v.cell? ⟨w.heap.size + 1, 1, none⟩ = some (.bool k.dir) ∧ v.cell? ⟨w.heap.size + 1, 34, none⟩ = some (.int .u8 k.ht) ∧ v.cell? ⟨w.heap.size + 1, 35, none⟩ = some (.int .u32 k.sz) ∧ ∀ i, v.frozen? ⟨w.heap.size + 1, i, none⟩ = false := by
  obtain ⟨h0, h1, h2, h3, _⟩ := kid_cells h.x.range' h.ok
  simp only [Nat.zero_add] at h0 h1 h2 h3
  exact ⟨h0, h1, h2, h3, h.x.free⟩
end
theorem gh_eq (s : List UInt8 × Bool) : (gh s).1 = ghD s := rfl
theorem gn_eq (s : List UInt8 × Bool) : gn s = ((gv (gnN s.1) s).1.tail, (gv (gnN s.1) s).2) := rfl

set_option maxRecDepth 100000 in
set_option maxHeartbeats 4000000 in
theorem readKid_any {B b : Nat} {X : Nat → Prop} {w : World} {s : List UInt8 × Bool} (h : Oi B X w b s) (hX : ∀ k, X k → k < w.heap.size) (hB : B ≤ w.heap.size) (kind : Nat) :
    Calls Try.prog 34 #[.pointer (some ⟨b, 0, none⟩), .int .u8 kind] w fun e w' => e = .returned (.agg (kcs (rdKd' kind s).1).toArray) ∧ Oi B X w' b (rdKd' kind s).2 ∧ Kp (fun k => k = b) w w' := by
  have Hr : Hid (Try.f34.results = #[.cell 4 46]) := Lib.hid (by kernel_rfl)
  obtain ⟨W, hW, b4, b5, k0⟩ : ∃ W, W = (w.alloc (.cells (kcs kd0).toArray 46)).alloc (.cells (kcs kd0).toArray 46) ∧ Box W w.heap.size 46 (kcs kd0).toArray ∧ Box W (w.heap.size + 1) 46 (kcs kd0).toArray ∧ Kp (fun _ => False) w W := ⟨_, rfl, (Box.new w _ _).alloc _, by simpa using Box.new (w.alloc (.cells (kcs kd0).toArray 46)) 46 (kcs kd0).toArray, ((Kp.refl _ w).alloc _).alloc _⟩
  have hWs : W.heap.size = w.heap.size + 2 := by rw [hW]; simp
  have HW := Lib.hid hW
  have U0 : Hid (Ku B b X w W kd0 s) := Lib.hid ⟨h.step k0 (fun k e => e.elim) (fun k e => by rcases e with e | e | e; exact .inl e; exact .inr (by omega); exact .inr (by omega)), b4, b5, kd0_ok, k0.mono fun _ _ e => e.elim, h.nb.2.2, hX, hB⟩
  clear hW b4 b5 k0 h hX hB hWs
  by_cases h3 : kind = 3
  · have d3 : ((kind : Int) == 3) = true := by simp; omega
    obtain ⟨m, hm⟩ : ∃ m, m = numN (gv 1 s).1 := ⟨_, rfl⟩
    obtain ⟨dd, hdd⟩ : ∃ dd, dd = decide (m = 1) := ⟨_, rfl⟩
    have dm : ((m : Int) == 1) = dd := by rw [hdd, Bool.eq_iff_iff]; simp; omega
    have HDD := Lib.hid hdd
    have HM := Lib.hid hm
    have H3 := Lib.hid h3
    clear hdd hm h3
    go_enter Try.func34, Try.ntmps34
    go_upto_region 2 with fail
    rw [zero_kid]
    rw [← HW.out]
    go_wp2_with fail
    have hc := take_i U0.out.o U0.out.xlt U0.out.ble 1 rfl
    rw [← HM.out] at hc
    refine hc.mono ?_
    clear hc
    rintro e w1 ⟨rfl, ho, hk⟩
    have U1 := Lib.hid (U0.out.call hk ho)
    clear ho hk
    obtain ⟨y0, y1, y2, y3, yf⟩ := U1.out.cells
    clear y0 y2 y3
    go_upto_region 4 with fail
    have U2 := Lib.hid (U1.out.setDir dd)
    obtain ⟨w2, hw2⟩ : ∃ w2, w2 = w1.setCell ⟨w.heap.size + 1, 1, none⟩ (.bool dd) := ⟨_, rfl⟩
    rw [← hw2] at U2 ⊢
    clear hw2 y1 yf dm
    go_wp2_with fail
    refine (name_i U2.out.o U2.out.xlt U2.out.ble).mono ?_
    rintro e w3 ⟨rfl, ho, hk⟩
    have U3 := Lib.hid (U2.out.call hk ho)
    clear ho hk
    obtain ⟨y0, y1, y2, y3, yf⟩ := U3.out.cells
    clear y1 y2 y3
    obtain ⟨nm, hnm⟩ : ∃ nm : ByteArray, nm = ⟨(gv (gnN (gv 1 s).2.1) (gv 1 s).2).1.tail.toArray⟩ := ⟨_, rfl⟩
    rw [← hnm]
    have HNM := Lib.hid hnm
    clear hnm
    go_upto_region 5 with fail
    have U4 := Lib.hid (U3.out.setName nm)
    obtain ⟨w4, hw4⟩ : ∃ w4, w4 = w3.setCell ⟨w.heap.size + 1, 0, none⟩ (.string nm) := ⟨_, rfl⟩
    rw [← hw4] at U4 ⊢
    clear hw4 y0 yf d3
    go_wp2_with fail
    refine (hash_i U4.out.o U4.out.xlt U4.out.ble).mono ?_
    rintro e w5 ⟨rfl, ho, hk⟩
    have U5 := Lib.hid (U4.out.call hk ho)
    clear ho hk
    obtain ⟨hs, hhs⟩ : ∃ hs, hs = ghD (gv (gnN (gv 1 s).2.1) (gv 1 s).2).2 := ⟨_, rfl⟩
    rw [← hhs]
    have HHL : Hid (hs.length = 32) := Lib.hid (by rw [hhs, ← gh_eq]; exact gh_len _)
    have HHS := Lib.hid hhs
    clear hhs
    go_upto_region 6 with (refine wpList_store_mid rfl 43 (.tmp 17) (.tmp 16) rfl (w.heap.size + 1) 2 (bcs hs).toArray rfl rfl (U5.out.x.thereAt 2 _ (by rw [List.size_toArray, bcs_length, HHL.out, kcs_len U5.out.ok]; omega)) (by rw [List.size_toArray, bcs_length, HHL.out]; exact info_hash') (bcs_all _) ?_)
    have U6 := Lib.hid (U5.out.setHash hs HHL.out)
    obtain ⟨w6, hw6⟩ : ∃ w6, w6 = w5.setCells (w.heap.size + 1) 2 (bcs hs) := ⟨_, rfl⟩
    rw [← hw6] at U6 ⊢
    clear hw6
    obtain ⟨m1, hm1⟩ : ∃ m1, m1 = numN (gv 1 (gv 32 (gv (gnN (gv 1 s).2.1) (gv 1 s).2).2).2).1 := ⟨_, rfl⟩
    have hb1 : m1 < 256 := by rw [hm1]; exact num1_lt _
    have hw1 : IntKind.u8.wrap (m1 : Int) = (m1 : Int) := IntWalk.u8_in _ (by omega)
    have HM1 := Lib.hid hm1
    clear hm1
    go_wp2_with fail
    have hc := take_i U6.out.o U6.out.xlt U6.out.ble 1 rfl
    rw [← HM1.out] at hc
    refine hc.mono ?_
    clear hc
    rintro e w7 ⟨rfl, ho, hk⟩
    have U7 := Lib.hid (U6.out.call hk ho)
    clear ho hk
    obtain ⟨y0, y1, y2, y3, yf⟩ := U7.out.cells
    clear y0 y1 y3
    go_upto_region 7 with fail
    have U8 := Lib.hid (U7.out.setHt m1 hb1)
    obtain ⟨w8, hw8⟩ : ∃ w8, w8 = w7.setCell ⟨w.heap.size + 1, 34, none⟩ (.int .u8 m1) := ⟨_, rfl⟩
    rw [← hw8] at U8 ⊢
    clear hw8 y2 yf hw1
    obtain ⟨m4, hm4⟩ : ∃ m4, m4 = numN (gv 4 (gv 1 (gv 32 (gv (gnN (gv 1 s).2.1) (gv 1 s).2).2).2).2).1 := ⟨_, rfl⟩
    have hb4 : m4 < 4294967296 := by rw [hm4]; exact num4_lt _
    have hw4 : IntKind.u32.wrap (m4 : Int) = (m4 : Int) := IntWalk.u32_in _ (by omega)
    have HM4 := Lib.hid hm4
    clear hm4
    go_wp2_with fail
    have hc := take_i U8.out.o U8.out.xlt U8.out.ble 4 rfl
    rw [← HM4.out] at hc
    refine hc.mono ?_
    clear hc
    rintro e w9 ⟨rfl, ho, hk⟩
    have U9 := Lib.hid (U8.out.call hk ho)
    clear ho hk
    obtain ⟨y0, y1, y2, y3, yf⟩ := U9.out.cells
    clear y0 y1 y2
    go_upto_region 8 with fail
    have UA := Lib.hid (U9.out.setSz m4 hb4)
    obtain ⟨wA, hwA⟩ : ∃ wA, wA = w9.setCell ⟨w.heap.size + 1, 35, none⟩ (.int .u32 m4) := ⟨_, rfl⟩
    rw [← hwA] at UA ⊢
    clear hwA y3 yf hw4
    obtain ⟨kf, hkf⟩ : ∃ kf, kf = ({ name := nm, dir := dd, hash := hs, ht := m1, sz := m4 } : Kd) := ⟨_, rfl⟩
    have UA : Hid (Ku B b X w wA kf (gv 4 (gv 1 (gv 32 (gv (gnN (gv 1 s).2.1) (gv 1 s).2).2).2).2).2) := Lib.hid (by rw [hkf]; exact UA.out)
    have HKF := Lib.hid hkf
    clear hkf
    go_wp2_with (first | (refine wpList_load_mid rfl 46 (.tmp 5) rfl (w.heap.size + 1) 0 rfl (kcs kf) _ UA.out.x.range' Try.underlying46 rfl (by rw [kcs_len UA.out.ok]; kernel_rfl) ?_) | (refine nstore_box rfl 46 (.tmp 4) (.tmp 26) rfl w.heap.size (kcs kf) rfl rfl UA.out.r (by rw [List.size_toArray, kcs_len kd0_ok, kcs_len UA.out.ok]) (by rw [kcs_len UA.out.ok]; kernel_rfl) (kcs_one kf) ?_; intro wB hbB hkB; have HBB := Lib.hid hbB; have HKB := Lib.hid hkB; clear hbB hkB) | fail)
    have HE : Hid ((rdKd' kind s).1 = kf ∧ (rdKd' kind s).2 = (gv 4 (gv 1 (gv 32 (gv (gnN (gv 1 s).2.1) (gv 1 s).2).2).2).2).2) := Lib.hid (by
      rw [HKF.out, HM4.out, HM1.out, HHS.out, HNM.out, HDD.out, HM.out]
      unfold rdKd' rdHd rdTl
      dsimp only
      rw [if_pos H3.out]
      exact ⟨rfl, rfl⟩)
    refine bodyPost_ret (v := .agg (kcs kf).toArray) ?_ rfl ⟨by rw [HE.out.1], ?_, ?_⟩
    · exact results_cell_row Hr.out _ _ w.heap.size 46 _ (0, 0) _ rfl HBB.out Try.underlying46 rfl (by rw [List.size_toArray, kcs_len UA.out.ok]; kernel_rfl)
    · rw [HE.out.2]
      exact UA.out.o.step HKB.out (fun k e => .inl (.inr (.inl e))) (fun k e => .inl (.inl e))
    · exact UA.out.kp.trans_new HKB.out (fun b e => .inl (by omega))
  · have d3 : ((kind : Int) == 3) = false := by simp; omega
    have H3 := Lib.hid h3
    clear h3
    go_enter Try.func34, Try.ntmps34
    go_upto_region 2 with fail
    rw [zero_kid]
    rw [← HW.out]
    go_wp2_with fail
    refine (hash_i U0.out.o U0.out.xlt U0.out.ble).mono ?_
    rintro e w5 ⟨rfl, ho, hk⟩
    have U5 := Lib.hid (U0.out.call hk ho)
    clear ho hk
    obtain ⟨hs, hhs⟩ : ∃ hs, hs = ghD s := ⟨_, rfl⟩
    rw [← hhs]
    have HHL : Hid (hs.length = 32) := Lib.hid (by rw [hhs, ← gh_eq]; exact gh_len _)
    have HHS := Lib.hid hhs
    clear hhs
    go_upto_region 6 with (refine wpList_store_mid rfl 43 (.tmp 17) (.tmp 16) rfl (w.heap.size + 1) 2 (bcs hs).toArray rfl rfl (U5.out.x.thereAt 2 _ (by rw [List.size_toArray, bcs_length, HHL.out, kcs_len U5.out.ok]; omega)) (by rw [List.size_toArray, bcs_length, HHL.out]; exact info_hash') (bcs_all _) ?_)
    have U6 := Lib.hid (U5.out.setHash hs HHL.out)
    obtain ⟨w6, hw6⟩ : ∃ w6, w6 = w5.setCells (w.heap.size + 1) 2 (bcs hs) := ⟨_, rfl⟩
    rw [← hw6] at U6 ⊢
    clear hw6
    obtain ⟨m1, hm1⟩ : ∃ m1, m1 = numN (gv 1 (gv 32 s).2).1 := ⟨_, rfl⟩
    have hb1 : m1 < 256 := by rw [hm1]; exact num1_lt _
    have hw1 : IntKind.u8.wrap (m1 : Int) = (m1 : Int) := IntWalk.u8_in _ (by omega)
    have HM1 := Lib.hid hm1
    clear hm1
    go_wp2_with fail
    have hc := take_i U6.out.o U6.out.xlt U6.out.ble 1 rfl
    rw [← HM1.out] at hc
    refine hc.mono ?_
    clear hc
    rintro e w7 ⟨rfl, ho, hk⟩
    have U7 := Lib.hid (U6.out.call hk ho)
    clear ho hk
    obtain ⟨y0, y1, y2, y3, yf⟩ := U7.out.cells
    clear y0 y1 y3
    go_upto_region 7 with fail
    have U8 := Lib.hid (U7.out.setHt m1 hb1)
    obtain ⟨w8, hw8⟩ : ∃ w8, w8 = w7.setCell ⟨w.heap.size + 1, 34, none⟩ (.int .u8 m1) := ⟨_, rfl⟩
    rw [← hw8] at U8 ⊢
    clear hw8 y2 yf hw1
    obtain ⟨m4, hm4⟩ : ∃ m4, m4 = numN (gv 4 (gv 1 (gv 32 s).2).2).1 := ⟨_, rfl⟩
    have hb4 : m4 < 4294967296 := by rw [hm4]; exact num4_lt _
    have hw4 : IntKind.u32.wrap (m4 : Int) = (m4 : Int) := IntWalk.u32_in _ (by omega)
    have HM4 := Lib.hid hm4
    clear hm4
    go_wp2_with fail
    have hc := take_i U8.out.o U8.out.xlt U8.out.ble 4 rfl
    rw [← HM4.out] at hc
    refine hc.mono ?_
    clear hc
    rintro e w9 ⟨rfl, ho, hk⟩
    have U9 := Lib.hid (U8.out.call hk ho)
    clear ho hk
    obtain ⟨y0, y1, y2, y3, yf⟩ := U9.out.cells
    clear y0 y1 y2
    go_upto_region 8 with fail
    have UA := Lib.hid (U9.out.setSz m4 hb4)
    obtain ⟨wA, hwA⟩ : ∃ wA, wA = w9.setCell ⟨w.heap.size + 1, 35, none⟩ (.int .u32 m4) := ⟨_, rfl⟩
    rw [← hwA] at UA ⊢
    clear hwA y3 yf hw4
    obtain ⟨kf, hkf⟩ : ∃ kf, kf = ({ name := ⟨#[]⟩, dir := false, hash := hs, ht := m1, sz := m4 } : Kd) := ⟨_, rfl⟩
    have UA : Hid (Ku B b X w wA kf (gv 4 (gv 1 (gv 32 s).2).2).2) := Lib.hid (by rw [hkf]; exact UA.out)
    have HKF := Lib.hid hkf
    clear hkf
    go_wp2_with (first | (refine wpList_load_mid rfl 46 (.tmp 5) rfl (w.heap.size + 1) 0 rfl (kcs kf) _ UA.out.x.range' Try.underlying46 rfl (by rw [kcs_len UA.out.ok]; kernel_rfl) ?_) | (refine nstore_box rfl 46 (.tmp 4) (.tmp 26) rfl w.heap.size (kcs kf) rfl rfl UA.out.r (by rw [List.size_toArray, kcs_len kd0_ok, kcs_len UA.out.ok]) (by rw [kcs_len UA.out.ok]; kernel_rfl) (kcs_one kf) ?_; intro wB hbB hkB; have HBB := Lib.hid hbB; have HKB := Lib.hid hkB; clear hbB hkB) | fail)
    have HE : Hid ((rdKd' kind s).1 = kf ∧ (rdKd' kind s).2 = (gv 4 (gv 1 (gv 32 s).2).2).2) := Lib.hid (by
      rw [HKF.out, HM4.out, HM1.out, HHS.out]
      unfold rdKd' rdHd rdTl
      dsimp only
      rw [if_neg H3.out]
      exact ⟨rfl, rfl⟩)
    refine bodyPost_ret (v := .agg (kcs kf).toArray) ?_ rfl ⟨by rw [HE.out.1], ?_, ?_⟩
    · exact results_cell_row Hr.out _ _ w.heap.size 46 _ (0, 0) _ rfl HBB.out Try.underlying46 rfl (by rw [List.size_toArray, kcs_len UA.out.ok]; kernel_rfl)
    · rw [HE.out.2]
      exact UA.out.o.step HKB.out (fun k e => .inl (.inr (.inl e))) (fun k e => .inl (.inl e))
    · exact UA.out.kp.trans_new HKB.out (fun b e => .inl (by omega))
end Go.Proofs.Ytoonihhjdmkflaa
