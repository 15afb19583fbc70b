/- What all three laws ask besides: sheets that are known. Condition: the table of half bytes reads as the program's text lays it. -/
import Derived.Test.YtdacjhgjaneeeaaDoorShJoin
import Derived.Test.YtdacjhgjaneeeaaDoorShTake
namespace Go.Proofs.YtdacjhgjaneeeaaDoor
open Go.RowKit

theorem made_rep (k m : Nat) (hk : 0 < k) (z : Value) : madeCells (List.replicate k z).toArray m = (List.replicate m z).toArray := by
  apply Array.ext
  · simp [madeCells]
  · intro i h1 h2
    have hm : i % k < (List.replicate k z).toArray.size := by simpa using Nat.mod_lt i hk
    have e : (List.replicate k z).toArray[i % (List.replicate k z).toArray.size]! = z := by
      rw [show (List.replicate k z).toArray.size = k by simp]
      rw [getElem!_pos (List.replicate k z).toArray (i % k) hm]
      simp
    simp only [madeCells, Array.getElem_map, Array.getElem_range, e]
    simp
def isZ : Value → Bool
  | .int .u8 n => n == 0
  | _ => false
theorem made_zeros (n : Nat) : (madeCells (Value.int .u8 0).cells (n * 1)).toList = bcs (List.replicate n 0) := by
  have h := made_rep 1 (n * 1) (by decide) (.int .u8 0)
  rw [show (Value.int .u8 0).cells = (List.replicate 1 (Value.int .u8 0)).toArray from rfl, h, Nat.mul_one]
  simp [bcs]
def tx498 : List UInt8 := List.replicate 498 0
def p497 : List UInt8 := List.replicate 497 0
def sh0 : Sh := ⟨7, false, p497⟩
def sh1 : Sh := ⟨8, true, [0]⟩
theorem cut498 : cutL 7 tx498 = [sh0, sh1] := by decide +kernel
theorem cut1 : cutL 8 [0] = [sh1] := by decide +kernel
theorem join498 : joinS [sh0, sh1] = some tx498 := by decide +kernel
theorem join1 : joinS [sh1] = some [0] := by decide +kernel
theorem take_zero : takeS (List.replicate 512 0) = none := by decide +kernel
theorem take_sh1 : takeS (secL 8 true [0]) = some sh1 := takeS_secL 8 true [0] (by decide) (by decide)

theorem own_addr {w : World} {base : Nat} {e : TypeId} {size n c : Nat} {A : Option Addr} {xs : List Value} (h : w.ownsRow base e size (.slice A n c) n xs) (hn : 0 < n) : ∃ g, A = some ⟨g, 0, none⟩ ∧ base ≤ g ∧ n ≤ c := by
  rcases h.2 with ⟨_, h2⟩ | ⟨g, cap, cur, hv, hb, _, hc, _⟩
  · omega
  · injection hv with hA _ hcap
    subst hcap
    exact ⟨g, hA, hb, hc⟩
theorem RdS.tail {w : World} {g o : Nat} {s : Sh} {l : List Sh} (h : RdS w (some ⟨g, o, none⟩) (s :: l)) : RdS w (some ⟨g, o + 3, none⟩) l := by
  rcases h with h | ⟨b, o', e, hc⟩
  · cases h
  · cases e
    refine .inr ⟨g, o + 3, rfl, fun j v hj => ?_⟩
    have := hc (3 + j) v (by
      show ((cells3 s).toList ++ rowS l)[3 + j]? = _
      rw [List.getElem?_append_right (by simp [cells3])]
      simp [cells3]
      exact hj)
    rw [← Nat.add_assoc] at this
    exact this
def v1 : Value := .agg #[.int .u64 8, .bool true, .string ⟨#[0]⟩]
theorem sh_cells3 (s : Sh) : cells3 s = #[.int .u64 s.q, .bool s.last, .string ⟨s.t.toArray⟩] := rfl

set_option maxRecDepth 100000 in
set_option maxHeartbeats 2000000 in
theorem wakes_true (w : World) (ht : Tbl w) :
    Calls Tryd.prog 6 #[] w fun e w' => e = .returned (.bool true) ∧ Kp (fun _ => False) w w' := by
  have HT := Lib.hid ht
  clear ht
  obtain ⟨i0, hi, hz0, hz1, hz2⟩ := info_parts info_byte
  obtain ⟨tx, htx⟩ : ∃ tx, tx498 = tx := ⟨_, rfl⟩
  have hl498 := Lib.hid (show tx.length = 498 by rw [← htx]; decide)
  have hcut := Lib.hid (show cutL 7 tx = [sh0, sh1] by rw [← htx]; exact cut498)
  have hjoin := Lib.hid (show joinS [sh0, sh1] = some tx by rw [← htx]; exact join498)
  have hnd := Lib.hid (show need tx.length = 2 by rw [hl498.out]; decide)
  have hmz := Lib.hid (show (madeCells (Value.int .u8 0).cells (498 * 1)).toList = bcs tx by rw [← htx]; exact made_zeros 498)
  go_enter Tryd.func6, Tryd.ntmps6
  go_wp2_with (at_make; go_must (refine wpList_make_full _ rfl _ _ 26 rfl w.heap.size 5 i0 _ 1 Tryd.underlying26 hi hz0 hz1 .i64 .i64 498 498 498 rfl rfl rfl rfl (by rw [hz2]; decide) (by decide) (Nat.le_refl _) ?_; intro w1 hown hgrow; rw [hmz.out] at hown; have hr := Rd.of_own hown; have hcv := hr.text (P := Tryd.prog) 26 9 5 498 Tryd.underlying26 Tryd.underlying5 Tryd.underlying9; rw [hl498.out] at hcv; have K1 := Lib.hid ((Kp.refl (fun _ => False) w).grown hgrow (fun k e => by cases e)); clear hown hgrow hr))
  have hc := cut_any 7 tx w1 (by decide) (by rw [hl498.out]; decide)
  rw [hcut.out, hnd.out, show ((7 : Nat) : Int) = 7 from rfl] at hc
  refine hc.mono ?_
  clear hc hcv
  rintro e w2 ⟨v, rfl, hown, hk⟩
  obtain ⟨A, c, rfl⟩ := own_shape3 hown
  obtain ⟨g, rfl, hg, hc2⟩ := own_addr hown (by decide)
  have hcne : ¬ c = 1 := by omega
  have R2 := Lib.hid (RdS.of_own hown)
  have K2 := Lib.hid (K1.out.trans hk)
  obtain ⟨g', o', e1, a0, a1, a2⟩ := R2.out.three (k := 0) (by decide)
  cases e1
  obtain ⟨g', o', e1, b0, b1, b2⟩ := R2.out.three (k := 1) (by decide)
  cases e1
  have hgw : w.heap.size ≤ g := Nat.le_trans K1.out.size hg
  have HG := Lib.hid (World.block_lt_of_cell? w2 _ a0)
  clear hown hk a0 hg
  obtain ⟨pp, hpp⟩ : ∃ pp, p497 = pp := ⟨_, rfl⟩
  have hpl : ((pp.length : Int) != 497) = false := by rw [← hpp]; decide
  have c1 : w2.cell? ⟨g, 1, none⟩ = some (.bool false) := a1
  have c2 : w2.cell? ⟨g, 2, none⟩ = some (.string ⟨pp.toArray⟩) := by rw [← hpp]; exact a2
  have c3 : w2.cell? ⟨g, 3, none⟩ = some (.int .u64 8) := b0
  have c4 : w2.cell? ⟨g, 4, none⟩ = some (.bool true) := b1
  have c5 : w2.cell? ⟨g, 5, none⟩ = some (.string ⟨#[0]⟩) := b2
  have C3 := Lib.hid c3
  have C4 := Lib.hid c4
  have C5 := Lib.hid c5
  clear a1 a2 b0 b1 b2 hpp htx
  have hneq : ∀ w : World, (binOp .neq 30 (.agg #[.int .u64 8, .bool true, .string ⟨#[0]⟩]) (.agg #[.int .u64 8, .bool true, .string ⟨#[0]⟩])).run Tryd.prog w = .ok (.bool false) w := fun w => (neq_sheet sh1 sh1 w).trans (by rw [decide_eq_true rfl]; rfl)
  have hput : Calls Tryd.prog 7 #[.agg #[.int .u64 8, .bool true, .string ⟨#[0]⟩]] w2 _ := put_fits 8 true ⟨#[0]⟩ w2 (by decide) (by decide) (HT.out.kp K2.out (fun e => e))
  have HPut := Lib.hid hput
  clear hput
  go_wp2_with fail
  clear c1 c2 c3 c4 c5 hneq hpl
  refine HPut.out.mono ?_
  clear HPut
  rintro e w3 ⟨A3, c3, rfl, h31, h32, hr3, ha3, hk⟩
  have K3 := Lib.hid (K2.out.trans hk)
  have D3 := Lib.hid ((hk.cell (p := ⟨g, 3, none⟩) HG.out (fun e => e)).trans C3.out)
  have D4 := Lib.hid ((hk.cell (p := ⟨g, 4, none⟩) HG.out (fun e => e)).trans C4.out)
  have D5 := Lib.hid ((hk.cell (p := ⟨g, 5, none⟩) HG.out (fun e => e)).trans C5.out)
  have R3 := Lib.hid (R2.out.kp hk (fun _ _ e => e))
  have HR3 := Lib.hid hr3
  clear hr3 ha3 hk
  go_wp2_with fail
  have ht : Calls Tryd.prog 10 #[.slice A3 512 c3] w3 fun e w' => e = .returned (.tuple #[.agg #[.int .u64 8, .bool true, .string ⟨#[0]⟩], .int .i64 0]) ∧ Kp (fun _ => False) w3 w' := by
    have ht := take_any A3 c3 512 (secL 8 true (tb ⟨#[0]⟩)) w3 HR3.out (HT.out.kp K3.out (fun e => e)) (by decide +kernel)
    rw [takeV_some (show takeS (secL 8 true (tb ⟨#[0]⟩)) = some sh1 from take_sh1)] at ht
    exact ht
  refine ht.mono ?_
  clear ht
  rintro e w4 ⟨rfl, hk⟩
  have K4 := Lib.hid (K3.out.trans hk)
  have R4 := Lib.hid (R3.out.kp hk (fun _ _ e => e))
  have B5 := Lib.hid (Box.new w4 30 #[.int .u64 8, .bool true, .string ⟨#[0]⟩])
  have K5 := Lib.hid (K4.out.alloc (.cells #[.int .u64 8, .bool true, .string ⟨#[0]⟩] 30))
  have R5 := Lib.hid (R4.out.kp ((Kp.refl (fun _ => False) w4).alloc (.cells #[.int .u64 8, .bool true, .string ⟨#[0]⟩] 30)) (fun _ _ e => e))
  clear hk HR3 D3 D4 D5 C3 C4 C5
  go_wp2_with fail
  generalize w4.alloc (.cells #[.int .u64 8, .bool true, .string ⟨#[0]⟩] 30) = w5 at *
  generalize w4.heap.size = g4 at *
  have hj : Calls Tryd.prog 15 #[.slice (some ⟨g, 0, none⟩) 2 c] w5 fun e w' => e = .returned (.tuple #[.string ⟨tx.toArray⟩, .bool true]) ∧ Kp (fun _ => False) w5 w' := by
    have hj := join_any (some ⟨g, 0, none⟩) c 2 [sh0, sh1] w5 R5.out rfl (by decide) (by decide)
    rw [joinV_some hjoin.out] at hj
    exact hj
  refine hj.mono ?_
  clear hj
  rintro e w6 ⟨rfl, hk⟩
  have K6 := Lib.hid (K5.out.trans hk)
  have B6 := Lib.hid (B5.out.kp hk (fun e => e))
  have R6 := Lib.hid (R5.out.kp hk (fun _ _ e => e))
  clear hk
  go_wp2_with fail
  have hj : Calls Tryd.prog 15 #[.slice (some ⟨g, 3, none⟩) 1 (c - 1)] w6 fun e w' => e = .returned (.tuple #[.string ⟨#[0]⟩, .bool true]) ∧ Kp (fun _ => False) w6 w' := by
    have hj := join_any (some ⟨g, 0 + 3, none⟩) (c - 1) 1 [sh1] w6 R6.out.tail rfl (by decide) (by decide)
    rw [joinV_some join1] at hj
    exact hj
  refine hj.mono ?_
  clear hj
  rintro e w7 ⟨rfl, hk⟩
  have K7 := Lib.hid (K6.out.trans hk)
  have B7 := Lib.hid (B6.out.kp hk (fun e => e))
  have R7 := Lib.hid (R6.out.kp hk (fun _ _ e => e))
  clear hk
  obtain ⟨z, hz⟩ : ∃ z, List.replicate 512 (0 : UInt8) = z := ⟨_, rfl⟩
  have hmz2 := Lib.hid (show (madeCells (Value.int .u8 0).cells (512 * 1)).toList = bcs z by rw [← hz]; exact made_zeros 512)
  have hzl := Lib.hid (show z.length = 512 by rw [← hz]; decide)
  have hzt := Lib.hid (show takeS z = none by rw [← hz]; exact take_zero)
  clear hz
  go_wp2_with (at_make; go_must (refine wpList_make_full _ rfl _ _ 26 rfl w7.heap.size 5 i0 _ 1 Tryd.underlying26 hi hz0 hz1 .i64 .i64 512 512 512 rfl rfl rfl rfl (by rw [hz2]; decide) (by decide) (Nat.le_refl _) ?_; intro w8 hown hgrow; rw [hmz2.out] at hown; have hr := Rd.of_own hown; have HR8 := Lib.hid hr; have hk := (Kp.refl (fun _ => False) w7).grown hgrow (fun k e => by cases e); have K8 := Lib.hid (K7.out.trans hk); have B8 := Lib.hid (B7.out.kp hk (fun e => e)); have R8 := Lib.hid (R7.out.kp hk (fun _ _ e => e)); clear hown hgrow hr hk))
  have ht : Calls Tryd.prog 10 #[.slice (some ⟨w7.heap.size, 0, none⟩) 512 512] w8 fun e w' => e = .returned (.tuple #[.agg #[.int .u64 0, .bool false, .string ⟨#[]⟩], .int .i64 3]) ∧ Kp (fun _ => False) w8 w' := by
    have ht := take_any (some ⟨w7.heap.size, 0, none⟩) 512 512 z w8 HR8.out (HT.out.kp K8.out (fun e => e)) hzl.out
    rw [takeV_none hzt.out] at ht
    exact ht
  refine ht.mono ?_
  clear ht
  rintro e w9 ⟨rfl, hk⟩
  have K10 := Lib.hid ((K8.out.trans hk).alloc (.cells #[.int .u64 0, .bool false, .string ⟨#[]⟩] 30))
  have B10 := ((B8.out.kp hk (fun e => e)).alloc (.cells #[.int .u64 0, .bool false, .string ⟨#[]⟩] 30))
  have R10 := ((R8.out.kp hk (fun _ _ e => e)).kp ((Kp.refl (fun _ => False) w9).alloc (.cells #[.int .u64 0, .bool false, .string ⟨#[]⟩] 30)) (fun _ _ e => e))
  clear hk HR8
  go_upto_region 9 with fail
  generalize w9.alloc (.cells #[.int .u64 0, .bool false, .string ⟨#[]⟩] 30) = w10 at *
  obtain ⟨g', o', e1, b0, b1, b2⟩ := R10.three (k := 1) (by decide)
  cases e1
  have c3 : w10.cell? ⟨g, 3, none⟩ = some (.int .u64 8) := b0
  have c4 : w10.cell? ⟨g, 4, none⟩ = some (.bool true) := b1
  have c5 : w10.cell? ⟨g, 5, none⟩ = some (.string ⟨#[0]⟩) := b2
  have d0 : w10.cell? ⟨g4, 0, none⟩ = some (.int .u64 8) := B10.cell 0
  have d1 : w10.cell? ⟨g4, 1, none⟩ = some (.bool true) := B10.cell 1
  have d2 : w10.cell? ⟨g4, 2, none⟩ = some (.string ⟨#[0]⟩) := B10.cell 2
  clear b0 b1 b2 R10 B10
  have heql : ∀ w : World, (binOp .eql 30 (.agg #[.int .u64 8, .bool true, .string ⟨#[0]⟩]) (.agg #[.int .u64 8, .bool true, .string ⟨#[0]⟩])).run Tryd.prog w = .ok (.bool true) w := fun w => (eql_sheet sh1 sh1 w).trans (by rw [decide_eq_true rfl])
  have hlen : ((tx.length : Int) == 498) = true := by rw [hl498.out]; decide
  have n498 : ∀ w : World, Calls Tryd.prog 14 #[.int .i64 498] w fun e w' => e = .returned (.int .i64 2) ∧ w' = w := fun w => (need_any 498 w (by decide)).mono fun _ _ h => ⟨h.1, h.2.symm⟩
  have n0 : ∀ w : World, Calls Tryd.prog 14 #[.int .i64 0] w fun e w' => e = .returned (.int .i64 1) ∧ w' = w := fun w => (need_any 0 w (by decide)).mono fun _ _ h => ⟨h.1, h.2.symm⟩
  go_quiet ((go_at_call 14; first | exact Calls.quiet_of_same (n498 _) | exact Calls.quiet_of_same (n0 _)))
  go_wp2_with fail
  go_ret
  exact ⟨rfl, K10.out.drewN _⟩
end Go.Proofs.YtdacjhgjaneeeaaDoor
