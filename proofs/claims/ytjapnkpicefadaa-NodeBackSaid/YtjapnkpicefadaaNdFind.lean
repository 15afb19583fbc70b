/- Where a key is in a node: count, Find, Down. No condition. -/
import Derived.Test.YtjapnkpicefadaaNdMem
import Derived.Test.YtjapnkpicefadaaQTk
namespace Go.Proofs.Ytjapnkpicefadaa
open Go.RowKit

def lessN (key : ByteArray) (l : List ByteArray) : Nat := l.countP fun k => bls k key
def moreN (key : ByteArray) (l : List ByteArray) : Nat := l.countP fun k => ble k key
def isB (key : ByteArray) (l : List ByteArray) : Bool := decide (l[lessN key l]? = some key)
theorem countP_snoc {α : Type} (p : α → Bool) (l : List α) (k : Nat) (h : k < l.length) : (l.take (k + 1)).countP p = (l.take k).countP p + if p l[k] = true then 1 else 0 := by
  rw [take_snoc l k h, List.countP_append]
  simp [List.countP_cons]
theorem countP_take_le {α : Type} (p : α → Bool) (l : List α) (k : Nat) : (l.take k).countP p ≤ k := Nat.le_trans List.countP_le_length (by rw [List.length_take]; omega)

set_option maxHeartbeats 400000 in
theorem less1_any (g : Nat) (key s : ByteArray) (w : World) (hg : Box w g 9 #[.string key]) :
    Calls Try.prog 27 #[.string s, .pointer (some ⟨g, 0, none⟩)] w fun e w' => e = .returned (.bool (bls s key)) ∧ w = w' := by
  have y1 := hg.cell 0
  simp at y1
  have hle : Go.Op.bytesLess s.toList key.toList = bls s key := rfl
  clear hg
  go_enter Try.func27, Try.ntmps27
  go_wp2
  go_ret
  exact ⟨rfl, rfl⟩
set_option maxHeartbeats 400000 in
theorem more1_any (g : Nat) (key s : ByteArray) (w : World) (hg : Box w g 9 #[.string key]) :
    Calls Try.prog 29 #[.string s, .pointer (some ⟨g, 0, none⟩)] w fun e w' => e = .returned (.bool (ble s key)) ∧ w = w' := by
  have y1 := hg.cell 0
  simp at y1
  have hle : (Go.Op.bytesLess s.toList key.toList || (s.toList == key.toList)) = ble s key := rfl
  clear hg
  go_enter Try.func29, Try.ntmps29
  go_wp2
  go_ret
  exact ⟨rfl, rfl⟩

set_option maxHeartbeats 1000000 in
theorem count_less (g : Nat) (key : ByteArray) (n : Nd) (p : Pl) (w : World) (h : NdR w n p) (hg : Box w g 9 #[.string key]) :
    Calls Try.prog 26 #[.agg (ncs n p), .func (.func 27) #[] #[.pointer (some ⟨g, 0, none⟩)]] w fun e w' => e = .returned (.int .i64 (lessN key n.keys : Nat)) ∧ Kp (fun _ => False) w w' := by
  obtain ⟨W, hW, b0, k0⟩ : ∃ W, W = w.alloc (.cells (ncs n p) 36) ∧ Box W w.heap.size 36 (ncs n p) ∧ Kp (fun _ => False) w W := ⟨_, rfl, Box.new w _ _, (Kp.refl _ w).alloc _⟩
  have HW := Lib.hid hW
  have K0 := Lib.hid k0
  have G := Lib.hid (hg.kp k0 (fun h => h))
  have H := Lib.hid (h.still k0)
  have hlen : n.keys.length ≤ 9223372036854775807 := by have := h.lk; unfold maxLen at this; omega
  have y1 : W.cell? ⟨w.heap.size, 1, none⟩ = some (.slice p.k n.keys.length p.ck) := b0.cell 1
  obtain ⟨A, hA⟩ : ∃ A, A = p.k := ⟨_, rfl⟩
  obtain ⟨l, hl⟩ : ∃ l, l = n.keys := ⟨_, rfl⟩
  have HR : Hid (RdV W A (sts l)) := by rw [hA, hl]; exact Lib.hid H.out.k
  rw [← hA, ← hl] at y1
  have HL := Lib.hid hl
  rw [← hl] at hlen ⊢
  clear hW b0 k0 hg h hA hl H
  go_enter Try.func26, Try.ntmps26
  go_upto_region 1 with fail
  rw [← HW.out]
  go_wp2_with fail
  go_loop [11, 5] (fun s11 s5 => ∃ k : Nat, k ≤ l.length ∧ s11 = .int .i64 k ∧ s5 = .int .i64 ((l.take k).countP (fun k => bls k key) : Nat)) (fun s11 _ => l.length - (Go.RowKit.intOf s11).toNat)
  case atStart => exact ⟨0, Nat.zero_le _, rfl, rfl⟩
  case round =>
    obtain ⟨k, hk, rfl, rfl⟩ := hrel
    by_cases hlt : k < l.length
    · obtain ⟨x, hx⟩ : ∃ x, l[k]? = some x := ⟨_, List.getElem?_eq_getElem hlt⟩
      obtain ⟨b, o, rfl, y⟩ := HR.out.at (sts_get hx)
      have HX : Hid (l[k] = x) := Lib.hid (by rw [List.getElem?_eq_getElem hlt] at hx; cases hx; rfl)
      have HS := Lib.hid (countP_snoc (fun k => bls k key) l k hlt)
      have hcl := countP_take_le (fun k => bls k key) l k
      obtain ⟨q, hq⟩ : ∃ q, q = (l.take k).countP (fun k => bls k key) := ⟨_, rfl⟩
      rw [← hq] at hcl ⊢
      have HQ := Lib.hid hq
      clear hx hq
      go_wp2_with fail
      refine (less1_any g key x W G.out).mono ?_
      rintro e w1 ⟨rfl, rfl⟩
      rcases hb : bls x key with _ | _
      · have HBB := Lib.hid hb
        clear hb
        go_wp2_with fail
        go_round
        case rel => exact ⟨k + 1, by omega, by go_num, by rw [HS.out, HX.out, HBB.out, ← HQ.out]; simp⟩
        case measure => simp [Go.RowKit.intOf]; omega
      · have HBB := Lib.hid hb
        clear hb
        go_wp2_with fail
        go_round
        case rel => exact ⟨k + 1, by omega, by go_num, by rw [HS.out, HX.out, HBB.out, ← HQ.out]; go_num⟩
        case measure => simp [Go.RowKit.intOf]; omega
    · go_wp2_with fail
      go_ret
      refine ⟨?_, K0.out⟩
      rw [List.take_of_length_le (by omega)]
      rfl

set_option maxHeartbeats 1000000 in
theorem count_more (g : Nat) (key : ByteArray) (n : Nd) (p : Pl) (w : World) (h : NdR w n p) (hg : Box w g 9 #[.string key]) :
    Calls Try.prog 26 #[.agg (ncs n p), .func (.func 29) #[] #[.pointer (some ⟨g, 0, none⟩)]] w fun e w' => e = .returned (.int .i64 (moreN key n.keys : Nat)) ∧ Kp (fun _ => False) w w' := by
  obtain ⟨W, hW, b0, k0⟩ : ∃ W, W = w.alloc (.cells (ncs n p) 36) ∧ Box W w.heap.size 36 (ncs n p) ∧ Kp (fun _ => False) w W := ⟨_, rfl, Box.new w _ _, (Kp.refl _ w).alloc _⟩
  have HW := Lib.hid hW
  have K0 := Lib.hid k0
  have G := Lib.hid (hg.kp k0 (fun h => h))
  have H := Lib.hid (h.still k0)
  have hlen : n.keys.length ≤ 9223372036854775807 := by have := h.lk; unfold maxLen at this; omega
  have y1 : W.cell? ⟨w.heap.size, 1, none⟩ = some (.slice p.k n.keys.length p.ck) := b0.cell 1
  obtain ⟨A, hA⟩ : ∃ A, A = p.k := ⟨_, rfl⟩
  obtain ⟨l, hl⟩ : ∃ l, l = n.keys := ⟨_, rfl⟩
  have HR : Hid (RdV W A (sts l)) := by rw [hA, hl]; exact Lib.hid H.out.k
  rw [← hA, ← hl] at y1
  have HL := Lib.hid hl
  rw [← hl] at hlen ⊢
  clear hW b0 k0 hg h hA hl H
  go_enter Try.func26, Try.ntmps26
  go_upto_region 1 with fail
  rw [← HW.out]
  go_wp2_with fail
  go_loop [11, 5] (fun s11 s5 => ∃ k : Nat, k ≤ l.length ∧ s11 = .int .i64 k ∧ s5 = .int .i64 ((l.take k).countP (fun k => ble k key) : Nat)) (fun s11 _ => l.length - (Go.RowKit.intOf s11).toNat)
  case atStart => exact ⟨0, Nat.zero_le _, rfl, rfl⟩
  case round =>
    obtain ⟨k, hk, rfl, rfl⟩ := hrel
    by_cases hlt : k < l.length
    · obtain ⟨x, hx⟩ : ∃ x, l[k]? = some x := ⟨_, List.getElem?_eq_getElem hlt⟩
      obtain ⟨b, o, rfl, y⟩ := HR.out.at (sts_get hx)
      have HX : Hid (l[k] = x) := Lib.hid (by rw [List.getElem?_eq_getElem hlt] at hx; cases hx; rfl)
      have HS := Lib.hid (countP_snoc (fun k => ble k key) l k hlt)
      have hcl := countP_take_le (fun k => ble k key) l k
      obtain ⟨q, hq⟩ : ∃ q, q = (l.take k).countP (fun k => ble k key) := ⟨_, rfl⟩
      rw [← hq] at hcl ⊢
      have HQ := Lib.hid hq
      clear hx hq
      go_wp2_with fail
      refine (more1_any g key x W G.out).mono ?_
      rintro e w1 ⟨rfl, rfl⟩
      rcases hb : ble x key with _ | _
      · have HBB := Lib.hid hb
        clear hb
        go_wp2_with fail
        go_round
        case rel => exact ⟨k + 1, by omega, by go_num, by rw [HS.out, HX.out, HBB.out, ← HQ.out]; simp⟩
        case measure => simp [Go.RowKit.intOf]; omega
      · have HBB := Lib.hid hb
        clear hb
        go_wp2_with fail
        go_round
        case rel => exact ⟨k + 1, by omega, by go_num, by rw [HS.out, HX.out, HBB.out, ← HQ.out]; go_num⟩
        case measure => simp [Go.RowKit.intOf]; omega
    · go_wp2_with fail
      go_ret
      refine ⟨?_, K0.out⟩
      rw [List.take_of_length_le (by omega)]
      rfl

set_option maxHeartbeats 1000000 in
theorem down_any (key : ByteArray) (n : Nd) (p : Pl) (w : World) (h : NdR w n p) :
    Calls Try.prog 18 #[.agg (ncs n p), .string key] w fun e w' => e = .returned (.int .i64 (moreN key n.keys : Nat)) ∧ Kp (fun _ => False) w w' := by
  obtain ⟨W, hW, b0, b1, k0⟩ : ∃ W, W = (w.alloc (.cells (ncs n p) 36)).alloc (.cells #[.string key] 9) ∧ Box W w.heap.size 36 (ncs n p) ∧ Box W (w.heap.size + 1) 9 #[.string key] ∧ Kp (fun _ => False) w W := ⟨_, rfl, (Box.new w _ _).alloc _, by simpa using Box.new (w.alloc (.cells (ncs n p) 36)) 9 #[.string key], ((Kp.refl _ w).alloc _).alloc _⟩
  have HW := Lib.hid hW
  have K0 := Lib.hid k0
  have HN := Lib.hid b0
  have HK := Lib.hid b1
  have HR := Lib.hid (h.still k0)
  clear hW b0 b1 k0 h
  go_enter Try.func18, Try.ntmps18
  go_upto_region 1 with fail
  rw [← HW.out]
  go_wp2_with (first | (refine wpList_load_mid rfl 36 (.tmp 2) rfl w.heap.size 0 rfl (ncs n p).toList _ HN.out.range Try.underlying36 rfl (by kernel_rfl) ?_) | fail)
  refine (count_more _ key n p W HR.out HK.out).mono ?_
  rintro e w1 ⟨rfl, k1⟩
  have K1 := Lib.hid k1
  clear k1
  go_wp2_with fail
  go_ret
  exact ⟨rfl, K0.out.trans K1.out⟩

set_option maxRecDepth 100000 in
set_option maxHeartbeats 2000000 in
theorem find_any (key : ByteArray) (n : Nd) (p : Pl) (w : World) (h : NdR w n p) :
    Calls Try.prog 16 #[.agg (ncs n p), .string key] w fun e w' => e = .returned (.tuple #[.int .i64 (lessN key n.keys : Nat), .bool (isB key n.keys)]) ∧ Kp (fun _ => False) w w' := by
  have hlen : n.keys.length ≤ 9223372036854775807 := by have := h.lk; unfold maxLen at this; omega
  have hq : lessN key n.keys ≤ n.keys.length := List.countP_le_length
  obtain ⟨W, hW, b0, b1, k0⟩ : ∃ W, W = (w.alloc (.cells (ncs n p) 36)).alloc (.cells #[.string key] 9) ∧ Box W w.heap.size 36 (ncs n p) ∧ Box W (w.heap.size + 1) 9 #[.string key] ∧ Kp (fun _ => False) w W := ⟨_, rfl, (Box.new w _ _).alloc _, by simpa using Box.new (w.alloc (.cells (ncs n p) 36)) 9 #[.string key], ((Kp.refl _ w).alloc _).alloc _⟩
  have HW := Lib.hid hW
  have K0 := Lib.hid k0
  have HN := Lib.hid b0
  have HK := Lib.hid b1
  have HR := Lib.hid (h.still k0)
  clear hW b0 b1 k0 h
  go_enter Try.func16, Try.ntmps16
  go_upto_region 1 with fail
  rw [← HW.out]
  go_upto_region 2 with (first | (refine wpList_load_mid rfl 36 (.tmp 2) rfl w.heap.size 0 rfl (ncs n p).toList _ HN.out.range Try.underlying36 rfl (by kernel_rfl) ?_) | (refine (count_less _ key n p W HR.out HK.out).mono ?_; rintro e w1 ⟨rfl, k1⟩; have K1 := Lib.hid k1; clear k1) | fail)
  obtain ⟨q, hqq⟩ : ∃ q, q = lessN key n.keys := ⟨_, rfl⟩
  have HQ := Lib.hid hqq
  rw [← hqq] at hq ⊢
  clear hqq
  by_cases hlt : q < n.keys.length
  · obtain ⟨x, hx⟩ : ∃ x, n.keys[q]? = some x := ⟨_, List.getElem?_eq_getElem hlt⟩
    obtain ⟨b, o, hA, y⟩ := HR.out.k.at (sts_get hx)
    have HF : Hid (∀ v, Kp (fun _ => False) w1 v → v.cell? ⟨w.heap.size, 1, none⟩ = some (.slice (some ⟨b, o, none⟩) n.keys.length p.ck) ∧ v.cell? ⟨w.heap.size + 1, 0, none⟩ = some (.string key) ∧ v.cell? ⟨b, o + q, none⟩ = some (.string x)) := Lib.hid fun v hv => by
      have hk := K1.out.trans hv
      refine ⟨?_, (HK.out.kp hk (fun h => h)).cell 0, (hk.cell (p := ⟨b, o + q, none⟩) (World.block_lt_of_cell? W ⟨b, o + q, none⟩ y) (fun h => h)).trans y⟩
      have := (HN.out.kp hk (fun h => h)).cell 1
      rw [← hA]
      exact this
    have hd : decide ((q : Int) < (n.keys.length : Int)) = true := by simpa using hlt
    have hd' : decide (q < n.keys.length) = true := by simpa using hlt
    have hE : Hid (isB key n.keys = (x.toList == key.toList)) := Lib.hid (by
      unfold isB
      rw [← HQ.out, hx, eq_byt]
      simp)
    clear hx hA y
    refine wp_region_quiet (C := fun v => Kp (fun _ => False) (w1) v) (by kernel_rfl) (by kernel_rfl) ((Kp.refl _ _).drew) (Wq.out ?_)
    refine qtk (h := ?_)
    refine qtk (h := ?_)
    refine qtk (h := ?_)
    refine qtk (hy := fun v hv => by (obtain ⟨y0, y1, y2⟩ := HF.out v hv; unfold Oper.quietAt; go_simp; with_reducible rfl)) (h := ?_)
    refine qtk (h := ?_)
    refine qtk (h := ?_)
    refine qtk (h := ?_)
    refine qtk (h := ?_)
    refine qtk (hy := fun v hv => by (obtain ⟨y0, y1, y2⟩ := HF.out v hv; unfold Oper.quietAt; go_simp; with_reducible rfl)) (h := ?_)
    refine qtk (h := ?_)
    refine qtk (h := ?_)
    refine qtk (hy := fun v hv => by (obtain ⟨y0, y1, y2⟩ := HF.out v hv; unfold Oper.quietAt; go_simp; with_reducible rfl)) (h := ?_)
    refine qtk (hy := fun v hv => by (obtain ⟨y0, y1, y2⟩ := HF.out v hv; unfold Oper.quietAt; go_simp; with_reducible rfl)) (h := ?_)
    refine qtk (h := ?_)
    refine qtk (h := ?_)
    refine qtk (h := ?_)
    refine qtk (h := ?_)
    refine Wq.mk (wpQuiet_nil ?_)
    intro w2 hw2
    have K2 := Lib.hid hw2
    clear hw2
    go_wp2_with fail
    go_ret2
    rw [hE.out, ← HQ.out]
    exact ⟨rfl, K0.out.trans (K1.out.trans K2.out)⟩
  · have HF : Hid (∀ v, Kp (fun _ => False) w1 v → v.cell? ⟨w.heap.size, 1, none⟩ = some (.slice p.k n.keys.length p.ck) ∧ True ∧ True) := Lib.hid fun v hv =>
      ⟨(HN.out.kp (K1.out.trans hv) (fun h => h)).cell 1, trivial, trivial⟩
    have hd : decide ((q : Int) < (n.keys.length : Int)) = false := by simpa using hlt
    have hd' : decide (q < n.keys.length) = false := by simpa using hlt
    have hE : Hid (isB key n.keys = false) := Lib.hid (by
      unfold isB
      rw [← HQ.out, List.getElem?_eq_none (by omega)]
      rfl)
    refine wp_region_quiet (C := fun v => Kp (fun _ => False) (w1) v) (by kernel_rfl) (by kernel_rfl) ((Kp.refl _ _).drew) (Wq.out ?_)
    refine qtk (h := ?_)
    refine qtk (h := ?_)
    refine qtk (h := ?_)
    refine qtk (hy := fun v hv => by (obtain ⟨y0, y1, y2⟩ := HF.out v hv; unfold Oper.quietAt; go_simp; with_reducible rfl)) (h := ?_)
    refine qtk (h := ?_)
    refine qtk (h := ?_)
    refine qtk (h := ?_)
    refine qsk (h := ?_)
    refine qsk (h := ?_)
    refine qsk (h := ?_)
    refine qsk (h := ?_)
    refine qsk (h := ?_)
    refine qsk (h := ?_)
    refine qsk (h := ?_)
    refine qtk (h := ?_)
    refine qtk (h := ?_)
    refine qtk (h := ?_)
    refine Wq.mk (wpQuiet_nil ?_)
    intro w2 hw2
    have K2 := Lib.hid hw2
    clear hw2
    go_wp2_with fail
    go_ret2
    rw [hE.out, ← HQ.out]
    exact ⟨rfl, K0.out.trans (K1.out.trans K2.out)⟩
end Go.Proofs.Ytjapnkpicefadaa
