/- The reference's roots: what Root answers. Conditions: a prime below 65536, a power of 2 or 3. -/
import Derived.Test.YtbchfpcdmkldeaaDoorRefWide
namespace Go.Proofs.YtbchfpcdmkldeaaDoor
open Go.RowKit

def bitK (k : Nat) : Nat := if k ≤ 36 then 2 ^ (36 - k) else 0
theorem bitK_next (k : Nat) : bitK k / 2 = bitK (k + 1) := by
  unfold bitK
  by_cases h : k ≤ 35
  · rw [if_pos (by omega), if_pos (by omega), show 36 - k = 36 - (k + 1) + 1 by omega, Nat.pow_succ]
    exact Nat.mul_div_cancel _ (by decide)
  · by_cases h2 : k = 36
    · subst h2; rfl
    · rw [if_neg (by omega), if_neg (by omega)]
theorem bitK_le (k : Nat) : bitK k ≤ 68719476736 := by
  unfold bitK
  split
  · exact Nat.pow_le_pow_right (n := 2) (by decide) (show 36 - k ≤ 36 by omega)
  · exact Nat.zero_le _
theorem bitK_pos (k : Nat) (h : k ≤ 36) : 0 < bitK k := by
  rw [bitK, if_pos h]
  exact Nat.pow_pos (by decide)
theorem bitK_last : bitK 37 = 0 := rfl
theorem root_le (n : List Nat) (pw k : Nat) (h : k ≤ 37) : rootM n pw k ≤ 2542620639232 :=
  Nat.le_trans (rootM_lt n pw k) (Nat.mul_le_mul_right 68719476736 h)

theorem pow_length (x : List Nat) (h : x.length = 9) (k : Nat) : (powM x k).length = 9 := by
  cases k with
  | zero => exact h
  | succ k => exact outM_length _ _ _
theorem size_setCells (g : Nat) (vs : List Value) : ∀ (o : Nat) (w : World), (w.setCells g o vs).heap.size = w.heap.size := by
  induction vs with
  | nil => exact fun _ _ => rfl
  | cons v r ih => intro o w; rw [World.setCells, ih]; simp [World.setCell]

set_option maxHeartbeats 4000000 in
set_option maxRecDepth 100000 in
theorem root_any (p pw : Nat) (w : World) (hp : p < 65536) (hpw : pw = 2 ∨ pw = 3) :
    Calls Tryd.prog 24 #[.int .u64 p, .int .i64 pw] w fun e w' => e = .returned (.int .u32 (rootOf p pw : Nat)) ∧ Kp (fun _ => False) w w' := by
  have hpwI : 0 ≤ 2 * (pw : Int) := by omega
  have hpw2 : 2 * (pw : Int) < 9 := by omega
  have hpw3 : 2 * pw < 9 := by omega
  have htn : (2 * (pw : Int)).toNat = 2 * pw := by omega
  have hpa : 2 ≤ pw := by omega
  have hpb : pw ≤ 3 := by omega
  clear hpw
  go_enter Tryd.func24, Tryd.ntmps24
  go_wp2_with fail
  have hset : [Value.int .u64 0, .int .u64 0, .int .u64 0, .int .u64 0, .int .u64 0, .int .u64 0, .int .u64 0, .int .u64 0, .int .u64 0].set (2 * pw) (.int .u64 (p : Int)) = c64 (zero9.set (2 * pw) p) := by rw [c64, List.map_set]; rfl
  rw [hset]
  clear hset
  have hlN : (zero9.set (2 * pw) p).length = 9 := by rw [List.length_set]; rfl
  have hsN : Small (zero9.set (2 * pw) p) := Small.set (fun x hx => by simp [zero9] at hx; omega) _ _ hp
  have hR : Hid (rootOf p pw = rootM (zero9.set (2 * pw) p) pw 37 % 4294967296) := Lib.hid rfl
  generalize zero9.set (2 * pw) p = N at *
  have b0 := Lib.hid (Box.new w 56 (c64 N).toArray)
  have k0 := Lib.hid ((Kp.refl (fun _ => False) w).alloc (.cells (c64 N).toArray 56))
  have hs0 : (w.alloc (.cells (c64 N).toArray 56)).heap.size = w.heap.size + 1 := by simp
  generalize w.alloc (.cells (c64 N).toArray 56) = W0 at *
  have HlN := Lib.hid hlN
  have HsN := Lib.hid hsN
  clear hlN hsN hpw2 hpw3 htn hpwI
  go_loopw [6, 7] (fun o b wr => ∃ k : Nat, k ≤ 37 ∧ b = .int .u64 (bitK k : Nat) ∧ o = .int .u64 (rootM N pw k : Nat) ∧ Kp (fun _ => False) W0 wr) (fun _ b _ => (intOf b).toNat)
  case atStart => exact ⟨0, by omega, rfl, rfl, Kp.refl _ _⟩
  case round =>
    obtain ⟨k, hk, rfl, rfl, hkp⟩ := hrel
    have Hkp := Lib.hid hkp
    clear hkp
    have hbl := bitK_le k
    have hrl := root_le N pw k hk
    by_cases hlt : k ≤ 36
    · have hbp := bitK_pos k hlt
      have hbn := bitK_next k
      have hst : Hid (rootM N pw (k + 1) = if lessM N (powM (wideM (rootM N pw k + bitK k)) (pw - 1)) 9 then rootM N pw k else rootM N pw k + bitK k) := Lib.hid (by rw [bitK, if_pos hlt]; rfl)
      have Hbn := Lib.hid hbn
      clear hbn
      generalize bitK k = bt at *
      generalize rootM N pw k = ro at *
      have hbpI : (0 : Int) < bt := by omega
      have hsum : (ro : Int) + (bt : Int) = ((ro + bt : Nat) : Int) := by omega
      have hslt : ro + bt < 18446744073709551616 := by omega
      have hw := Lib.hid (wide_any (ro + bt) wr hslt)
      obtain ⟨X, hX⟩ : ∃ X, wideM (ro + bt) = X := ⟨_, rfl⟩
      have hXs : Small X := by rw [← hX]; exact wide_small _
      have hXl : X.length = 9 := by rw [← hX]; rfl
      rw [hX] at hw hst
      clear hX
      have HXs := Lib.hid hXs
      have HXl := Lib.hid hXl
      obtain ⟨sm, hsm⟩ : ∃ sm, ro + bt = sm := ⟨_, rfl⟩
      rw [hsm] at hw hst hsum hslt
      have Hsm := Lib.hid hsm
      clear hXs hXl hsm
      go_wp2_with fail
      refine hw.out.mono ?_
      rintro e y1 ⟨rfl, ky1⟩
      have hk1 := Lib.hid (Hkp.out.trans ky1)
      obtain ⟨ya, hya⟩ : ∃ ya, y1.alloc (.cells #[.int .u64 0, .int .u64 0, .int .u64 0, .int .u64 0, .int .u64 0, .int .u64 0, .int .u64 0, .int .u64 0, .int .u64 0] 56) = ya := ⟨_, rfl⟩
      have hb8 : Box ya y1.heap.size 56 (c64 zero9).toArray := by rw [← hya]; exact Box.new y1 56 (c64 zero9).toArray
      have hka : Kp (fun _ => False) W0 ya := by rw [← hya]; exact hk1.out.alloc _
      have hza : ya.heap.size = y1.heap.size + 1 := by rw [← hya]; simp
      have hw8 := Lib.hid (hb8.write (vs := c64 X) (by rw [c64_length, HXl.out]; rfl))
      have hk2 := Lib.hid (Kp.setCells (g := y1.heap.size) (c64 X) 0 _ hka (.inl hk1.out.size))
      have hz2 : (ya.setCells y1.heap.size 0 (c64 X)).heap.size = y1.heap.size + 1 := by rw [size_setCells, hza]
      obtain ⟨yb, hyb⟩ : ∃ yb, ya.setCells y1.heap.size 0 (c64 X) = yb := ⟨_, rfl⟩
      obtain ⟨yc, hyc⟩ : ∃ yc, yb.alloc (.cells #[.int .u64 0, .int .u64 0, .int .u64 0, .int .u64 0, .int .u64 0, .int .u64 0, .int .u64 0, .int .u64 0, .int .u64 0] 56) = yc := ⟨_, rfl⟩
      rw [hyb] at hw8 hk2 hz2
      have hb9 : Box yc (y1.heap.size + 1) 56 (c64 zero9).toArray := by rw [← hyc, ← hz2]; exact Box.new yb 56 (c64 zero9).toArray
      have hkc : Kp (fun _ => False) W0 yc := by rw [← hyc]; exact hk2.out.alloc _
      have hw8c : Box yc y1.heap.size 56 (c64 X).toArray := by rw [← hyc]; exact hw8.out.alloc _
      have hw9 := Lib.hid (hb9.write (vs := c64 X) (by rw [c64_length, HXl.out]; rfl))
      have hk3 := Lib.hid (Kp.setCells (g := y1.heap.size + 1) (c64 X) 0 _ hkc (.inl (by have := hk1.out.size; omega)))
      have hkd : Kp (fun q => q = y1.heap.size + 1) yc (yc.setCells (y1.heap.size + 1) 0 (c64 X)) := Kp.setCells _ 0 yc (Kp.refl _ _) (.inr rfl)
      have hw8d := Lib.hid (hw8c.kp hkd (by omega))
      have hsX : (c64 X).toArray.size = 9 := by rw [List.size_toArray, c64_length, HXl.out]
      have HsX := Lib.hid hsX
      have HB8 := Lib.hid hb8
      have HB9 := Lib.hid hb9
      have Hya := Lib.hid hya
      have Hyb := Lib.hid hyb
      have Hyc := Lib.hid hyc
      clear ky1 hw hb8 hka hza hb9 hkc hw8c hkd hsX Hya Hyb Hyc
      go_wp2_with (first
        | (refine wpList_store_mid rfl _ (.tmp 8) (.tmp 22) rfl y1.heap.size 0 (c64 X).toArray rfl rfl ?c1 ?c2 ?c3 ?_)
        | (refine wpList_load_mid rfl _ (.tmp 8) rfl y1.heap.size 0 rfl (c64 X) _ ?c4 Tryd.underlying56 rfl ?c5 ?_)
        | (refine wpList_store_mid rfl _ (.tmp 9) (.tmp 23) rfl (y1.heap.size + 1) 0 (c64 X).toArray rfl rfl ?c6 ?c7 ?c8 ?_))
      case c1 => rw [HsX.out]; exact HB8.out.there
      case c2 => first | exact wide9 _ HXl.out | exact Option.map_eq_some_iff.1 (wide9 _ HXl.out)
      case c3 => first | exact all_oneCell_toArray (c64_one _) | exact c64_one _
      case c4 => first | exact hw8.out.range' | (have hrg := hw8.out.range'; rw [← hyb] at hrg; exact hrg)
      case c5 => first | exact wide9 _ HXl.out | exact Option.map_eq_some_iff.1 (wide9 _ HXl.out)
      case c6 => first | (rw [HsX.out]; exact HB9.out.there) | (rw [c64_length, HXl.out]; exact HB9.out.there)
      case c7 => first | exact wide9 _ HXl.out | exact Option.map_eq_some_iff.1 (wide9 _ HXl.out)
      case c8 => first | exact all_oneCell_toArray (c64_one _) | exact c64_one _
      clear hya hyb hyc
      generalize yc.setCells (y1.heap.size + 1) 0 (c64 X) = y3 at *
      have Hg8 : Hid (W0.heap.size ≤ y1.heap.size) := Lib.hid hk1.out.size
      generalize hg8 : y1.heap.size = g8 at *
      clear HB8 HB9 hk2 hz2 hw8 hk1 hg8
      have Hgn : Hid (w.heap.size < W0.heap.size) := Lib.hid (by omega)
      go_loopw [10] (fun i wr => ∃ j : Nat, j ≤ pw - 1 ∧ i = .int .i64 ((j : Int) + 1) ∧ Box wr (g8 + 1) 56 (c64 (powM X j)).toArray ∧ Kp (fun q => q = g8 + 1) y3 wr) (fun i _ => pw - (intOf i).toNat)
      case atStart => exact ⟨0, by omega, rfl, hw9.out, Kp.refl _ _⟩
      case round =>
        obtain ⟨j, hj, rfl, hbx, hkp⟩ := hrel
        have Hbx := Lib.hid hbx
        have Hkj := Lib.hid hkp
        clear hbx hkp
        have hPl : Hid ((powM X j).length = 9) := Lib.hid (pow_length X HXl.out j)
        have hPs : Hid (Small (powM X j)) := Lib.hid (pow_small X HXs.out j)
        have hbX := Lib.hid (hw8d.out.kp Hkj.out (by omega))
        by_cases hjl : j < pw - 1
        · have hjI : (j : Int) + 1 < pw := by omega
          have hnx : Hid (powM X (j + 1) = timesM (powM X j) X) := Lib.hid rfl
          have ht := Lib.hid (times_any (powM X j) X wr hPs.out HXs.out hPl.out HXl.out)
          generalize powM X j = P at *
          obtain ⟨T, hT⟩ : ∃ T, timesM P X = T := ⟨_, rfl⟩
          have hTl : T.length = 9 := by rw [← hT]; exact outM_length P X 9
          rw [hT] at ht hnx
          have HTl := Lib.hid hTl
          clear hT hTl
          go_wp2_with (first
            | (refine wpList_load_mid rfl _ (.tmp 9) rfl (g8 + 1) 0 rfl (c64 P) _ ?c1 Tryd.underlying56 rfl ?c2 ?_)
            | (refine wpList_load_mid rfl _ (.tmp 8) rfl g8 0 rfl (c64 X) _ ?c3 Tryd.underlying56 rfl ?c4 ?_))
          case c1 => exact Hbx.out.range'
          case c2 => first | exact wide9 _ hPl.out | exact Option.map_eq_some_iff.1 (wide9 _ hPl.out)
          case c3 => exact hbX.out.range'
          case c4 => first | exact wide9 _ HXl.out | exact Option.map_eq_some_iff.1 (wide9 _ HXl.out)
          refine ht.out.mono ?_
          rintro e y4 ⟨rfl, ky4⟩
          have hb4 := Lib.hid (Hbx.out.kp ky4 (fun h => h))
          have hw4 := Lib.hid (hb4.out.write (vs := c64 T) (by rw [c64_length, c64_length, HTl.out, hPl.out]))
          have hk4 := Lib.hid (Kp.setCells (g := g8 + 1) (c64 T) 0 _ (Hkj.out.trans (ky4.mono fun _ _ h => h.elim)) (.inr rfl))
          have hsT : Hid ((c64 T).toArray.size = 9) := Lib.hid (by rw [List.size_toArray, c64_length, HTl.out])
          have hsP : Hid ((c64 P).toArray.size = 9) := Lib.hid (by rw [List.size_toArray, c64_length, hPl.out])
          clear ky4
          go_wp2_with (refine wpList_store_mid rfl _ (.tmp 9) (.tmp 31) rfl (g8 + 1) 0 (c64 T).toArray rfl rfl ?c5 ?c6 ?c7 ?_)
          case c5 => first | (rw [hsT.out, ← hsP.out]; exact hb4.out.there) | (rw [c64_length, HTl.out, ← hsP.out]; exact hb4.out.there)
          case c6 => first | exact wide9 _ HTl.out | exact Option.map_eq_some_iff.1 (wide9 _ HTl.out)
          case c7 => first | exact all_oneCell_toArray (c64_one _) | exact c64_one _
          go_roundw
          case rel => exact ⟨j + 1, by omega, by go_num, by rw [hnx.out]; exact hw4.out, hk4.out⟩
          case measure => simp [intOf]; omega
        · have hjI : ¬ ((j : Int) + 1 < pw) := by omega
          have hjp : Hid (j = pw - 1) := Lib.hid (by omega)
          rw [← hjp.out] at hst
          generalize powM X j = P at *
          have hkw := Lib.hid ((hk3.out.trans_new Hkj.out (fun q hq => .inl (by have := Hg8.out; omega))))
          have hbN := Lib.hid (b0.out.kp hkw.out (fun h => h))
          have hl := Lib.hid (less_any N P wr HlN.out hPl.out)
          obtain ⟨lb, hlb⟩ : ∃ lb, lessM N P 9 = lb := ⟨_, rfl⟩
          rw [hlb] at hl hst
          clear hlb
          go_wp2_with (first
            | (refine wpList_load_mid rfl _ (.tmp 5) rfl w.heap.size 0 rfl (c64 N) _ ?d1 Tryd.underlying56 rfl ?d2 ?_)
            | (refine wpList_load_mid rfl _ (.tmp 9) rfl (g8 + 1) 0 rfl (c64 P) _ ?d3 Tryd.underlying56 rfl ?d4 ?_))
          case d1 => exact hbN.out.range'
          case d2 => first | exact wide9 _ HlN.out | exact Option.map_eq_some_iff.1 (wide9 _ HlN.out)
          case d3 => exact Hbx.out.range'
          case d4 => first | exact wide9 _ hPl.out | exact Option.map_eq_some_iff.1 (wide9 _ hPl.out)
          refine hl.out.mono ?_
          rintro e y5 ⟨rfl, ky5⟩
          have hk5 := Lib.hid (hkw.out.trans ky5)
          clear ky5
          cases lb
          · go_wp2_with fail
            go_roundw
            case rel => exact ⟨k + 1, by omega, by rw [← Hbn.out, Int.natCast_ediv]; rfl, by rw [hst.out]; rfl, hk5.out⟩
            case measure => simp [intOf]; omega
          · go_wp2_with fail
            go_roundw
            case rel => exact ⟨k + 1, by omega, by rw [← Hbn.out, Int.natCast_ediv]; rfl, by rw [hst.out]; rfl, hk5.out⟩
            case measure => simp [intOf]; omega
    · obtain rfl : k = 37 := by omega
      have hb0' : bitK 37 = 0 := rfl
      rw [hb0']
      generalize hro : rootM N pw 37 = ro at *
      have Hro := Lib.hid hro
      clear hro hb0'
      go_wp2_with fail
      go_ret
      exact ⟨by rw [hR.out]; rfl, k0.out.trans Hkp.out⟩
end Go.Proofs.YtbchfpcdmkldeaaDoor
