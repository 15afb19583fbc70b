/- The reference's wide numbers: what its functions answer. No condition but that the groups are below 65536. -/
import Derived.Test.YtbchfpcdmkldeaaDoorRefMath
import Derived.Test.YtbchfpcdmkldeaaDoorMem2
import Derived.Test.YtbchfpcdmkldeaaDoorChecked
import Derived.IntWalk
namespace Go.Proofs.YtbchfpcdmkldeaaDoor
open Go.RowKit

/-- Numbers of 64 bits, a cell each. -/
def c64 (o : List Nat) : List Value := o.map fun (x : Nat) => Value.int .u64 ((x : Nat) : Int)
theorem c64_length (o : List Nat) : (c64 o).length = o.length := by simp [c64]
theorem c64_one (o : List Nat) : ∀ v ∈ c64 o, v.oneCell' = true := fun v hv => by
  obtain ⟨_, _, rfl⟩ := List.mem_map.1 hv
  rfl
theorem c64_set (o : List Nat) (j v : Nat) : (c64 o).toArray.setIfInBounds j (.int .u64 (v : Int)) = (c64 (o.set j v)).toArray := by
  rw [List.setIfInBounds_toArray, c64, c64, List.map_set]
theorem c64_cell {w : World} {g : Nat} {t : TypeId} {o : List Nat} (h : Box w g t (c64 o).toArray) (j : Nat) (hj : j < o.length) : w.cell? ⟨g, j, none⟩ = some (.int .u64 (o.getD j 0 : Nat)) := by
  rw [h.cell]
  simp [c64, List.getD_eq_getElem?_getD, hj]
theorem infoW9 : (Tryd.prog.info? 56).map (·.size) = some 9 := by kernel_rfl
theorem wide9 (o : List Nat) (h : o.length = 9) : (Tryd.prog.info? 56).map (·.size) = some (c64 o).length := by rw [c64_length, h]; exact infoW9

/-- The state behind k groups. -/
def wst (n : Nat) : Nat → Nat × List Nat
  | 0 => (n, zero9)
  | k + 1 => ((wst n k).1 / 65536, (wst n k).2.set k ((wst n k).1 % 65536))
theorem wst_last (n : Nat) : (wst n 4).2 = wideM n := rfl
theorem wst_length (n k : Nat) : (wst n k).2.length = 9 := by
  induction k with
  | zero => rfl
  | succ k ih => rw [wst, List.length_set, ih]
theorem wst_le (n k : Nat) : (wst n k).1 ≤ n := by
  induction k with
  | zero => exact Nat.le_refl _
  | succ k ih => exact Nat.le_trans (Nat.div_le_self _ _) ih

set_option maxHeartbeats 4000000 in
set_option maxRecDepth 100000 in
theorem wide_any (n : Nat) (w : World) (hn : n < 18446744073709551616) :
    Calls Tryd.prog 26 #[.int .u64 n] w fun e w' => e = .returned (.agg (c64 (wideM n)).toArray) ∧ Kp (fun _ => False) w w' := by
  have Hr : Hid (Tryd.f26.results = #[.cell 2 56]) := Lib.hid (by kernel_rfl)
  go_enter Tryd.func26, Tryd.ntmps26
  go_wp2_with fail
  have hb0 := (Box.new w 56 (c64 zero9).toArray).alloc (.cells (c64 zero9).toArray 56)
  have hb1 := Box.new (w.alloc (.cells (c64 zero9).toArray 56)) 56 (c64 zero9).toArray
  have k0 := ((Kp.refl (fun _ => False) w).alloc (.cells (c64 zero9).toArray 56)).alloc (.cells (c64 zero9).toArray 56)
  rw [World.size_alloc] at hb1
  rw [show (c64 zero9).toArray = #[.int .u64 0, .int .u64 0, .int .u64 0, .int .u64 0, .int .u64 0, .int .u64 0, .int .u64 0, .int .u64 0, .int .u64 0] from rfl] at hb0 hb1 k0
  generalize (w.alloc (.cells #[.int .u64 0, .int .u64 0, .int .u64 0, .int .u64 0, .int .u64 0, .int .u64 0, .int .u64 0, .int .u64 0, .int .u64 0] 56)).alloc (.cells #[.int .u64 0, .int .u64 0, .int .u64 0, .int .u64 0, .int .u64 0, .int .u64 0, .int .u64 0, .int .u64 0, .int .u64 0] 56) = w2 at *
  rw [show #[Value.int .u64 0, .int .u64 0, .int .u64 0, .int .u64 0, .int .u64 0, .int .u64 0, .int .u64 0, .int .u64 0, .int .u64 0] = (c64 zero9).toArray from rfl] at hb0 hb1
  have B0 := Lib.hid hb0
  have B1 := Lib.hid hb1
  have K0 := Lib.hid k0
  clear hb0 hb1 k0
  go_loopw [0, 4] (fun x i wr => ∃ k : Nat, k ≤ 4 ∧ i = .int .i64 k ∧ x = .int .u64 ((wst n k).1 : Nat) ∧ Box wr (w.heap.size + 1) 56 (c64 (wst n k).2).toArray ∧ Kp (fun q => q = w.heap.size + 1) w2 wr) (fun _ i _ => 4 - (intOf i).toNat)
  case atStart => exact ⟨0, by omega, rfl, rfl, B1.out, Kp.refl _ _⟩
  case round =>
    obtain ⟨k, hk, rfl, rfl, hbx, hkp⟩ := hrel
    have Hbx := Lib.hid hbx
    have Hkp := Lib.hid hkp
    clear hbx hkp
    by_cases hlt : k < 4
    · have hkI : (k : Int) < 4 := by omega
      have hk9 : (k : Int) < 9 := by omega
      have hck := c64_cell Hbx.out k (by rw [wst_length]; omega)
      have hcf := Hbx.out.free k
      have hx : (wst n k).1 < 18446744073709551616 := Nat.lt_of_le_of_lt (wst_le n k) hn
      have hput := Lib.hid (Hbx.out.put k (.int .u64 ((((wst n k).1 % 65536 : Nat)) : Int)))
      rw [c64_set] at hput
      have hs1 : Hid ((wst n (k + 1)).1 = (wst n k).1 / 65536) := Lib.hid rfl
      have hs2 : Hid ((wst n (k + 1)).2 = (wst n k).2.set k ((wst n k).1 % 65536)) := Lib.hid rfl
      generalize (wst n k).1 = x at *
      generalize (wst n k).2 = o at *
      go_wp2_with fail
      go_roundw
      case rel => exact ⟨k + 1, by omega, by go_num, by rw [hs1.out]; rfl, by rw [hs2.out]; exact hput.out, Hkp.out.setCell (p := ⟨w.heap.size + 1, k, none⟩) (.inr rfl) _⟩
      case measure => simp [intOf]; omega
    · obtain rfl : k = 4 := by omega
      have hb16 := Hbx.out
      rw [wst_last] at hb16
      have hb1 : Hid (Box wr w.heap.size 56 (c64 zero9).toArray) := Lib.hid (B0.out.kp Hkp.out (by omega))
      have hdone : Hid (Kp (fun _ => False) w (wr.setCells w.heap.size 0 (c64 (wideM n)).toArray.toList)) := Lib.hid (Kp.setCells _ _ _ (K0.out.trans_new Hkp.out (fun q hq => .inl (by omega))) (.inl (Nat.le_refl _)))
      have hbox : Hid (Box (wr.setCells w.heap.size 0 (c64 (wideM n)).toArray.toList) w.heap.size 56 (c64 (wideM n)).toArray) := Lib.hid (hb1.out.write rfl)
      have hb16 := Lib.hid hb16
      go_wp2_with (first
        | (refine wpList_load_mid rfl _ (.tmp 3) rfl (w.heap.size + 1) 0 rfl (c64 (wideM n)) _ ?c1 Tryd.underlying56 rfl ?c2 ?_)
        | (refine wpList_store_mid rfl _ (.tmp 2) (.tmp 15) rfl w.heap.size 0 (c64 (wideM n)).toArray rfl rfl ?c3 ?c4 ?c5 ?_))
      case c1 => exact hb16.out.range'
      case c2 => exact Option.map_eq_some_iff.1 (wide9 _ rfl)
      case c3 => exact hb1.out.there
      case c4 => exact Option.map_eq_some_iff.1 (wide9 _ rfl)
      case c5 => exact c64_one _
      refine bodyPost_ret (v := .agg (c64 (wideM n)).toArray) ?_ rfl ⟨rfl, hdone.out⟩
      exact results_cell_row Hr.out _ _ w.heap.size _ _ (0, 0) _ rfl hbox.out Tryd.underlying56 rfl (by kernel_rfl)

theorem innM_carry (ai : Nat) (b : List Nat) (i : Nat) (o : List Nat) (k : Nat) (ha : ai < 65536) (hb : Small b) (ho : Small o) : (innM ai b i o k).2 < 65536 := by
  induction k with
  | zero => exact Nat.zero_lt_succ _
  | succ k ih =>
    have h1 := (innM_small ai b i o k ho).get (i + k)
    have h2 : ai * b.getD k 0 ≤ 65535 * 65535 := Nat.mul_le_mul (by omega) (by have := hb.get k; omega)
    show ((innM ai b i o k).1.getD (i + k) 0 + ai * b.getD k 0 + (innM ai b i o k).2) / 65536 < 65536
    omega
theorem int_lt (x y : Nat) : decide (x < y) = decide ((x : Int) < (y : Int)) := by rw [Bool.eq_iff_iff]; simp
theorem boxes4 (w : World) (c0 c1 c2 c3 : Array Value) (t0 t1 t2 t3 : TypeId) : ∃ W, W = (((w.alloc (.cells c0 t0)).alloc (.cells c1 t1)).alloc (.cells c2 t2)).alloc (.cells c3 t3) ∧
    Box W w.heap.size t0 c0 ∧ Box W (w.heap.size + 1) t1 c1 ∧ Box W (w.heap.size + 1 + 1) t2 c2 ∧ Box W (w.heap.size + 1 + 1 + 1) t3 c3 ∧ Kp (fun _ => False) w W ∧ W.heap.size = w.heap.size + 4 := by
  refine ⟨_, rfl, ?_, ?_, ?_, ?_, (((((Kp.refl (fun _ => False) w).alloc _).alloc _).alloc _).alloc _), by simp⟩
  · exact (((Box.new w t0 c0).alloc _).alloc _).alloc _
  · have := ((Box.new (w.alloc (.cells c0 t0)) t1 c1).alloc (.cells c2 t2)).alloc (.cells c3 t3)
    simpa only [World.size_alloc] using this
  · have := (Box.new ((w.alloc (.cells c0 t0)).alloc (.cells c1 t1)) t2 c2).alloc (.cells c3 t3)
    simpa only [World.size_alloc] using this
  · have := Box.new (((w.alloc (.cells c0 t0)).alloc (.cells c1 t1)).alloc (.cells c2 t2)) t3 c3
    simpa only [World.size_alloc] using this

set_option maxHeartbeats 4000000 in
set_option maxRecDepth 100000 in
theorem times_any (a b : List Nat) (w : World) (ha : Small a) (hb : Small b) (la : a.length = 9) (lb : b.length = 9) :
    Calls Tryd.prog 27 #[.agg (c64 a).toArray, .agg (c64 b).toArray] w fun e w' => e = .returned (.agg (c64 (timesM a b)).toArray) ∧ Kp (fun _ => False) w w' := by
  have Hr : Hid (Tryd.f27.results = #[.cell 4 56]) := Lib.hid (by kernel_rfl)
  have Ha := Lib.hid ha
  have Hb := Lib.hid hb
  have La := Lib.hid la
  have Lb := Lib.hid lb
  clear ha hb la lb
  go_enter Tryd.func27, Tryd.ntmps27
  go_wp2_with fail
  obtain ⟨W0, hW0, b0, b1, b2, b3, k0, hsz⟩ := boxes4 w (c64 a).toArray (c64 b).toArray #[.int .u64 0, .int .u64 0, .int .u64 0, .int .u64 0, .int .u64 0, .int .u64 0, .int .u64 0, .int .u64 0, .int .u64 0] #[.int .u64 0, .int .u64 0, .int .u64 0, .int .u64 0, .int .u64 0, .int .u64 0, .int .u64 0, .int .u64 0, .int .u64 0] 56 56 56 56
  rw [← hW0]
  clear hW0
  have b2' : Box W0 (w.heap.size + 1 + 1) 56 (c64 zero9).toArray := b2
  have b3' : Box W0 (w.heap.size + 1 + 1 + 1) 56 (c64 (outM a b 0)).toArray := b3
  have B0 := Lib.hid b0
  have B1 := Lib.hid b1
  have B2 := Lib.hid b2'
  have B3 := Lib.hid b3'
  have K0 := Lib.hid k0
  clear b0 b1 b2 b3 b2' b3' k0
  go_loopw [6] (fun i wr => ∃ k : Nat, k ≤ 9 ∧ i = .int .i64 k ∧ Box wr (w.heap.size + 1 + 1 + 1) 56 (c64 (outM a b k)).toArray ∧ Kp (fun q => q = w.heap.size + 1 + 1 + 1) W0 wr) (fun i _ => 9 - (intOf i).toNat)
  case atStart => exact ⟨0, by omega, rfl, B3.out, Kp.refl _ _⟩
  case round =>
    obtain ⟨i, hi, rfl, hbx, hkp⟩ := hrel
    have Hbx := Lib.hid hbx
    have Hkp := Lib.hid hkp
    clear hbx hkp
    by_cases hlt : i < 9
    · have hiI : (i : Int) < 9 := by omega
      have hai := Lib.hid (Ha.out.get i)
      have Hsm := Lib.hid (outM_small a b i)
      have Hln := Lib.hid (outM_length a b i)
      have Hnx : Hid (outM a b (i + 1) = (innM (a.getD i 0) b i (outM a b i) (9 - i)).1) := Lib.hid rfl
      generalize outM a b i = o at *
      go_wp2_with fail
      go_loopw [7, 8] (fun c j wr => ∃ k : Nat, k ≤ 9 - i ∧ j = .int .i64 k ∧ c = .int .u64 ((innM (a.getD i 0) b i o k).2 : Nat) ∧ Box wr (w.heap.size + 1 + 1 + 1) 56 (c64 (innM (a.getD i 0) b i o k).1).toArray ∧ Kp (fun q => q = w.heap.size + 1 + 1 + 1) W0 wr) (fun _ j _ => 9 - (intOf j).toNat)
      case atStart => exact ⟨0, by omega, rfl, rfl, Hbx.out, Hkp.out⟩
      case round =>
        obtain ⟨k, hk, rfl, rfl, hbx, hkp⟩ := hrel
        have Hbj := Lib.hid hbx
        have Hkj := Lib.hid hkp
        clear hbx hkp
        by_cases hltk : i + k < 9
        · have hikI : (i : Int) + k < 9 := by omega
          have hkI : (k : Int) < 9 := by omega
          have hsum : (i : Int) + (k : Int) = ((i + k : Nat) : Int) := by omega
          have hc0 := c64_cell (B0.out.kp Hkj.out (by omega)) i (by rw [La.out]; exact hlt)
          have hc1 := c64_cell (B1.out.kp Hkj.out (by omega)) k (by rw [Lb.out]; omega)
          have hlen := innM_length (a.getD i 0) b i o k
          have hc3 := c64_cell Hbj.out (i + k) (by rw [hlen, Hln.out]; omega)
          have hf3 := Hbj.out.free (i + k)
          have hsm := (innM_small (a.getD i 0) b i o k Hsm.out).get (i + k)
          have hcr := innM_carry (a.getD i 0) b i o k hai.out Hb.out Hsm.out
          have hbk := Hb.out.get k
          have hS1 : Hid ((innM (a.getD i 0) b i o (k + 1)).1 = (innM (a.getD i 0) b i o k).1.set (i + k) (((innM (a.getD i 0) b i o k).1.getD (i + k) 0 + a.getD i 0 * b.getD k 0 + (innM (a.getD i 0) b i o k).2) % 65536)) := Lib.hid rfl
          have hS2 : Hid ((innM (a.getD i 0) b i o (k + 1)).2 = ((innM (a.getD i 0) b i o k).1.getD (i + k) 0 + a.getD i 0 * b.getD k 0 + (innM (a.getD i 0) b i o k).2) / 65536) := Lib.hid rfl
          have hmul : a.getD i 0 * b.getD k 0 ≤ 65535 * 65535 := Nat.mul_le_mul (by have := hai.out; omega) (by omega)
          have hput := Lib.hid (Hbj.out.put (i + k) (.int .u64 ((((innM (a.getD i 0) b i o k).1.getD (i + k) 0 + a.getD i 0 * b.getD k 0 + (innM (a.getD i 0) b i o k).2) % 65536 : Nat) : Int)))
          rw [c64_set] at hput
          clear hlen
          generalize (innM (a.getD i 0) b i o k).2 = cr at *
          generalize (innM (a.getD i 0) b i o k).1 = oj at *
          generalize oj.getD (i + k) 0 = x at *
          generalize b.getD k 0 = bk at *
          have hai' := hai.out
          generalize ha0 : a.getD i 0 = ai at *
          generalize hm : ai * bk = m at *
          have hmI : ((ai : Nat) : Int) * ((bk : Nat) : Int) = (m : Int) := by rw [← hm, Int.natCast_mul]
          obtain ⟨y, hy⟩ : ∃ y, x + m = y := ⟨_, rfl⟩
          obtain ⟨n, hn⟩ : ∃ n, y + cr = n := ⟨_, rfl⟩
          have hW1 : IntKind.u64.wrap (m : Int) = m := IntWalk.u64_in _ (by omega)
          have hW2 : IntKind.u64.wrap ((x : Int) + m) = y := by rw [show (x : Int) + m = (y : Int) by omega]; exact IntWalk.u64_in _ (by omega)
          have hW3 : IntKind.u64.wrap ((y : Int) + cr) = n := by rw [show (y : Int) + cr = (n : Int) by omega]; exact IntWalk.u64_in _ (by omega)
          have hT1 : ((n : Int)).tdiv 65536 = ((n / 65536 : Nat) : Int) := (Int.ofNat_tdiv n 65536).symm
          have hT2 : ((n : Int)).tmod 65536 = ((n % 65536 : Nat) : Int) := (Int.ofNat_tmod n 65536).symm
          have hT3 : n / 65536 < 18446744073709551616 := by omega
          rw [hy, hn] at hS1 hS2 hput
          have Hn := Lib.hid hn
          clear hm hy hn
          generalize i + k = ik at *
          generalize n / 65536 = nq0 at *
          generalize n % 65536 = nr at *
          go_wp2_with fail
          go_quiet (fail)
          have hputq := Lib.hid (hput.out : Box ((wr.drewN nq).setCell ⟨w.heap.size + 1 + 1 + 1, ik, none⟩ (.int .u64 ((nr : Nat) : Int))) _ _ _)
          go_wp2_with fail
          go_roundw
          case rel => exact ⟨k + 1, by omega, by go_num, by rw [hS2.out], by rw [hS1.out]; exact hputq.out, (Hkj.out.drewN nq).setCell (p := ⟨w.heap.size + 1 + 1 + 1, ik, none⟩) (.inr rfl) _⟩
          case measure => simp [intOf]; omega
        · have hikI : ¬ ((i : Int) + k < 9) := by omega
          have hk9 : Hid (k = 9 - i) := Lib.hid (by omega)
          have hbn := Hbj.out
          rw [hk9.out, ← Hnx.out] at hbn
          have Hbn := Lib.hid hbn
          clear hbn
          go_wp2_with fail
          go_roundw
          case rel => exact ⟨i + 1, by omega, by go_num, Hbn.out, Hkj.out⟩
          case measure => simp [intOf]; omega
    · obtain rfl : i = 9 := by omega
      have hlT : (timesM a b).length = 9 := outM_length a b 9
      have htm : outM a b 9 = timesM a b := rfl
      have hb16' := Hbx.out
      rw [htm] at hb16'
      clear htm
      generalize htm : timesM a b = tm at *
      have Htm := Lib.hid htm
      clear htm
      have hb16 := Lib.hid hb16'
      clear hb16'
      have hb2 : Hid (Box wr (w.heap.size + 1 + 1) 56 (c64 zero9).toArray) := Lib.hid (B2.out.kp Hkp.out (by omega))
      have hdone : Hid (Kp (fun _ => False) w (wr.setCells (w.heap.size + 1 + 1) 0 (c64 (tm)).toArray.toList)) := Lib.hid (Kp.setCells _ _ _ (K0.out.trans_new Hkp.out (fun q hq => .inl (by omega))) (.inl (by omega)))
      have hbox : Hid (Box (wr.setCells (w.heap.size + 1 + 1) 0 (c64 (tm)).toArray.toList) (w.heap.size + 1 + 1) 56 (c64 (tm)).toArray) := Lib.hid (hb2.out.write (by rw [c64_length, c64_length, hlT]; rfl))
      have HlT := Lib.hid hlT
      clear hlT
      go_wp2_with (first
        | (refine wpList_load_mid rfl _ (.tmp 5) rfl (w.heap.size + 1 + 1 + 1) 0 rfl (c64 (tm)) _ ?c1 Tryd.underlying56 rfl ?c2 ?_)
        | (refine wpList_store_mid rfl _ (.tmp 4) (.tmp 43) rfl (w.heap.size + 1 + 1) 0 (c64 (tm)).toArray rfl rfl ?c3 ?c4 ?c5 ?_))
      case c1 => exact hb16.out.range'
      case c2 => exact Option.map_eq_some_iff.1 (wide9 _ HlT.out)
      case c3 => rw [c64_length, HlT.out]; exact hb2.out.there
      case c4 => exact Option.map_eq_some_iff.1 (wide9 _ HlT.out)
      case c5 => exact c64_one _
      refine bodyPost_ret (v := .agg (c64 tm).toArray) ?_ rfl ⟨by rw [Htm.out], hdone.out⟩
      exact results_cell_row Hr.out _ _ (w.heap.size + 1 + 1) _ _ (0, 0) _ rfl hbox.out Tryd.underlying56 rfl (by simpa [c64_length, HlT.out] using infoW9)

set_option maxHeartbeats 4000000 in
set_option maxRecDepth 100000 in
theorem less_any (a b : List Nat) (w : World) (la : a.length = 9) (lb : b.length = 9) :
    Calls Tryd.prog 28 #[.agg (c64 a).toArray, .agg (c64 b).toArray] w fun e w' => e = .returned (.bool (lessM a b 9)) ∧ Kp (fun _ => False) w w' := by
  go_enter Tryd.func28, Tryd.ntmps28
  go_wp2_with fail
  have b0 := Lib.hid ((Box.new w 56 (c64 a).toArray).alloc (.cells (c64 b).toArray 56))
  have b1 := Box.new (w.alloc (.cells (c64 a).toArray 56)) 56 (c64 b).toArray
  rw [World.size_alloc] at b1
  have B1 := Lib.hid b1
  have k0 := Lib.hid (((Kp.refl (fun _ => False) w).alloc (.cells (c64 a).toArray 56)).alloc (.cells (c64 b).toArray 56))
  generalize (w.alloc (.cells (c64 a).toArray 56)).alloc (.cells (c64 b).toArray 56) = W0 at *
  clear b1
  go_loopw [5] (fun i wr => ∃ (k : Nat) (z : Int), k ≤ 9 ∧ i = .int .i64 z ∧ z = (k : Int) - 1 ∧ lessM a b 9 = lessM a b k ∧ ∃ q, wr = W0.drewN q) (fun i _ => (intOf i + 1).toNat)
  case atStart => exact ⟨9, 8, by omega, rfl, rfl, rfl, 0, rfl⟩
  case round =>
    obtain ⟨k, z, hk, rfl, hz, hle, q, rfl⟩ := hrel
    cases k with
    | zero =>
      have hz0 : z < 0 := by omega
      have Hle : Hid (lessM a b 9 = false) := Lib.hid hle
      clear hle hz
      go_wp2_with fail
      go_ret
      exact ⟨by rw [Hle.out]; rfl, k0.out.drewN q⟩
    | succ k =>
      obtain rfl : z = (k : Int) := by omega
      have hk9 : (k : Int) < 9 := by omega
      have hc0 := c64_cell b0.out k (by omega)
      have hc1 := c64_cell B1.out k (by omega)
      have hun : Hid (lessM a b (k + 1) = if a.getD k 0 = b.getD k 0 then lessM a b k else decide (a.getD k 0 < b.getD k 0)) := Lib.hid rfl
      have Hle := Lib.hid hle
      clear hle hz
      generalize a.getD k 0 = x at *
      generalize b.getD k 0 = y at *
      by_cases hxy : x = y
      · rw [if_pos hxy] at hun
        subst hxy
        go_wp2_with fail
        go_quiet (fail)
        go_wp2_with fail
        go_roundw
        case rel => exact ⟨k, (k : Int) - 1, by omega, rfl, rfl, by rw [Hle.out, hun.out], _, rfl⟩
        case measure => simp [intOf]
      · rw [if_neg hxy] at hun
        have hne : ¬ ((x : Int) = (y : Int)) := by omega
        go_wp2_with fail
        go_quiet (fail)
        go_wp2_with fail
        go_quiet (fail)
        go_wp2_with fail
        go_ret
        exact ⟨by rw [Hle.out, hun.out]; rfl, ((k0.out.drewN q).drewN _).drewN _⟩
end Go.Proofs.YtbchfpcdmkldeaaDoor
