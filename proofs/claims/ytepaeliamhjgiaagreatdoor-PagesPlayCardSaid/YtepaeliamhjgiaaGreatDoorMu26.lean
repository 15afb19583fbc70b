/- The law of pages, part 26 of 55: BtSetB BtUsed BtBytes. -/
import Derived.Test.YtepaeliamhjgiaaGreatDoorMu1
import Derived.Test.YtepaeliamhjgiaaGreatDoorMu25
import Derived.StillTailTactics
set_option maxHeartbeats 16000000
set_option maxRecDepth 100000
namespace Go.Proofs.YtepaeliamhjgiaaGreatDoor.Bt
open Go.RowKit
theorem wrap64_of (p : Nat) (h : p < 18446744073709551616) : IntKind.u64.wrap (p : Int) = (p : Int) := by
 rw [IntKind.wrap_u64]
 omega
def setF (f : Nat -> Bool) (n : Nat) (i : Int) (u : Bool) : Nat -> Bool := if pgB n i then upd f i.toNat u else f
theorem set_any (f : Nat -> Bool) (n : Nat) (i : Int) (u : Bool) (w : World) (hn : n <= 1024) :
  Calls Tryz.prog 105 #[.agg (mcs f n).toArray, .int .i64 i, .bool u] w fun e w' => e = .returned (.agg (mcs (setF f n i u) n).toArray) /\ Kp (fun _ => False) w w' := by
 have Hr : Hid (Tryz.f105.results = #[.cell 6 82]) := hHd (by kernel_rfl)
 obtain ⟨W, hW, hb, hz, hk⟩ : ∃ W, W = (w.alloc (.cells (mcs f n).toArray 82)).alloc (.cells #[.int .u64 0, .int .u64 0, .int .u64 0, .int .u64 0, .int .u64 0, .int .u64 0, .int .u64 0, .int .u64 0, .int .u64 0, .int .u64 0, .int .u64 0, .int .u64 0, .int .u64 0, .int .u64 0, .int .u64 0, .int .u64 0, .int .i64 0] 82) /\ Mp W w.heap.size f n /\ Box W (w.heap.size + 1) 82 #[.int .u64 0, .int .u64 0, .int .u64 0, .int .u64 0, .int .u64 0, .int .u64 0, .int .u64 0, .int .u64 0, .int .u64 0, .int .u64 0, .int .u64 0, .int .u64 0, .int .u64 0, .int .u64 0, .int .u64 0, .int .u64 0, .int .i64 0] /\ Kp (fun _ => False) w W := by
  refine ⟨_, rfl, (Mp.new w f n).alloc _, ?_, ((Kp.refl _ w).alloc _).alloc _⟩
  have := Box.new (w.alloc (.cells (mcs f n).toArray 82)) 82 #[.int .u64 0, .int .u64 0, .int .u64 0, .int .u64 0, .int .u64 0, .int .u64 0, .int .u64 0, .int .u64 0, .int .u64 0, .int .u64 0, .int .u64 0, .int .u64 0, .int .u64 0, .int .u64 0, .int .u64 0, .int .u64 0, .int .i64 0]
  rw [World.size_alloc] at this
  exact this
 have HW := hHd hW
 have K := hHd hk
 have HB := hHd hb
 have HZ := hHd hz
 clear hW hb hk hz
 have hp := hHd (ispage_any f n i W)
 rcases hpg : pgB n i with _ | _
 ·have hx : setF f n i u = f := by simp [setF, hpg]
  rw [hx]
  rw [hpg] at hp
  clear hx hpg
  go_enter Tryz.func105, Tryz.ntmps105
  go_upto_region 1 with fail
  rw [<- HW.out]
  go_wp2_with (first | (refine wpList_load_mid rfl 82 (.tmp 3) rfl w.heap.size 0 rfl (mcs f n) _ (Mp.range HB.out) Tryz.underlying82 rfl (infoMca _ _) ?_) | fail)
  refine hp.out.mono ?_
  rintro e w1 ⟨rfl, k1⟩
  have K1 := hHd (K.out.trans k1)
  have HB1 := hHd (HB.out.kp k1 (fun h => h))
  have HZ1 := hHd (HZ.out.kp k1 (fun h => h))
  clear k1
  go_wp2_with (first | (refine wpList_load_mid rfl 82 (.tmp 3) rfl w.heap.size 0 rfl (mcs f n) _ (Mp.range HB1.out) Tryz.underlying82 rfl (infoMca _ _) ?_) | (refine bstore_box rfl 82 (.tmp 6) (.tmp 13) rfl (w.heap.size + 1) (mcs f n) rfl rfl HZ1.out (by rw [mcs_length]; rfl) (infoMcs _ _) (mcs_one _ _) ?_; intro w5 hb5 hk5) | fail)
  refine bodyPost_ret (v := .agg (mcs f n).toArray) ?_ rfl ⟨rfl, K1.out.trans_new hk5 (fun k e => .inl (by omega))⟩
  exact results_cell_row Hr.out _ _ (w.heap.size + 1) 82 _ (0, 0) _ rfl hb5 Tryz.underlying82 rfl (infoMca _ _)
 ·obtain ⟨h0, h1⟩ : 0 <= i /\ i < n := by simpa [pgB] using hpg
  rw [hpg] at hp
  have hx : setF f n i u = upd f i.toNat u := by simp [setF, hpg]
  rw [hx]
  obtain ⟨k, rfl⟩ := Int.eq_ofNat_of_zero_le h0
  have hk : k < 1024 := by omega
  have e1 : ((k : Int)).toNat = k := rfl
  rw [e1]
  clear hx hpg h0 h1 e1
  have hq : k / 64 < 16 := by omega
  have hs : k % 64 < 64 := Nat.mod_lt _ (by decide)
  have hpl := hHd (place_any k)
  have hxl := wd_lt f (k / 64)
  have hyl := wd_lt (upd f k false) (k / 64)
  have h1s : 2 ^ (k % 64) < 18446744073709551616 := Nat.pow_lt_pow_right (a := 2) (n := 64) (by decide) hs
  have hoff := u64_andNot_nat (wd f (k / 64)) (2 ^ (k % 64)) hxl h1s
  rw [wd_clear] at hoff
  have hon := u64_or_nat (wd (upd f k false) (k / 64)) (2 ^ (k % 64)) hyl h1s
  rw [wd_on] at hon
  have hoth : ∀ v j, j ≠ k / 64 -> wd (upd f k v) j = wd f j := fun v j hj => wd_other f k v j hj
  have Hoff := hHd hoff
  have Hon := hHd hon
  have Hoth := hHd hoth
  have y := HB.out.word (k / 64) hq
  have fr := HB.out.free (k / 64)
  have hwr : IntKind.u64.wrap ((2 : Int) ^ (k % 64)) = ((2 ^ (k % 64) : Nat) : Int) := by
   have e : ((2 : Int) ^ (k % 64)) = ((2 ^ (k % 64) : Nat) : Int) := by simp
   rw [e]
   exact wrap64_of _ h1s
  have Hwr := hHd hwr
  clear hoff hon hoth hxl hyl h1s hwr
  obtain ⟨q, hqe⟩ : ∃ q, k / 64 = q := ⟨_, rfl⟩
  obtain ⟨s, hse⟩ : ∃ s, k % 64 = s := ⟨_, rfl⟩
  rw [hqe] at hq
  rw [hse] at hs
  rw [hqe, hse] at hpl
  rw [hqe, hse] at Hoff Hon
  rw [hse] at Hwr
  rw [hqe] at Hoth y fr
  clear hqe hse
  have hqi : (q : Int) < 16 := by omega
  have hsi : (s : Int) < 64 := by omega
  go_enter Tryz.func105, Tryz.ntmps105
  go_upto_region 1 with fail
  rw [<- HW.out]
  go_wp2_with (first | (refine wpList_load_mid rfl 82 (.tmp 3) rfl w.heap.size 0 rfl (mcs f n) _ (Mp.range HB.out) Tryz.underlying82 rfl (infoMca _ _) ?_) | fail)
  refine hp.out.mono ?_
  rintro e w1 ⟨rfl, k1⟩
  have K1 := hHd (K.out.trans k1)
  have HB1 := hHd (HB.out.kp k1 (fun h => h))
  have HZ1 := hHd (HZ.out.kp k1 (fun h => h))
  clear k1 y fr
  go_wp2_with fail
  refine (hpl.out w1 (by omega)).mono ?_
  rintro e w1 ⟨rfl, rfl⟩
  have y := HB1.out.word q hq
  have fr := HB1.out.free q
  go_wp2_with fail
  go_still_tail 9, (by kernel_rfl)
  change wpList _ _ _ _ _ w1.drew
  go_upto_region 5 with fail
  have hb2 : Mp (w1.setCell ⟨w.heap.size, q, none⟩ (.int .u64 (bits .andNot .u64 ((wd f q : Nat) : Int) (IntKind.u64.wrap (2 ^ s))))).drew w.heap.size (upd f k false) n :=
   (HB1.out.put q hq _ (by rw [Hwr.out, Hoff.out]) (Hoth.out false)).drew
  have hz2 : Box (w1.setCell ⟨w.heap.size, q, none⟩ (.int .u64 (bits .andNot .u64 ((wd f q : Nat) : Int) (IntKind.u64.wrap (2 ^ s))))).drew (w.heap.size + 1) 82 #[.int .u64 0, .int .u64 0, .int .u64 0, .int .u64 0, .int .u64 0, .int .u64 0, .int .u64 0, .int .u64 0, .int .u64 0, .int .u64 0, .int .u64 0, .int .u64 0, .int .u64 0, .int .u64 0, .int .u64 0, .int .u64 0, .int .i64 0] := (HZ1.out.far (p := ⟨w.heap.size, q, none⟩) (by simp) _).drew
  have k2 : Kp (fun _ => False) w (w1.setCell ⟨w.heap.size, q, none⟩ (.int .u64 (bits .andNot .u64 ((wd f q : Nat) : Int) (IntKind.u64.wrap (2 ^ s))))).drew := (K1.out.setCell (p := ⟨w.heap.size, q, none⟩) (.inl (Nat.le_refl _)) _).drew
  generalize (w1.setCell ⟨w.heap.size, q, none⟩ (.int .u64 (bits .andNot .u64 ((wd f q : Nat) : Int) (IntKind.u64.wrap (2 ^ s))))).drew = w2 at hb2 hz2 k2 ⊢
  have HB2 := hHd hb2
  have HZ2 := hHd hz2
  have K2 := hHd k2
  clear y fr hb2 hz2 k2
  rcases u with _ | _
  ·go_wp2_with (first | (refine wpList_load_mid rfl 82 (.tmp 3) rfl w.heap.size 0 rfl (mcs (upd f k false) n) _ (Mp.range HB2.out) Tryz.underlying82 rfl (infoMca _ _) ?_) | (refine bstore_box rfl 82 (.tmp 6) (.tmp 38) rfl (w.heap.size + 1) (mcs (upd f k false) n) rfl rfl HZ2.out (by rw [mcs_length]; rfl) (infoMcs _ _) (mcs_one _ _) ?_; intro w5 hb5 hk5) | fail)
   refine bodyPost_ret (v := .agg (mcs (upd f k false) n).toArray) ?_ rfl ⟨rfl, K2.out.trans_new hk5 (fun k e => .inl (by omega))⟩
   exact results_cell_row Hr.out _ _ (w.heap.size + 1) 82 _ (0, 0) _ rfl hb5 Tryz.underlying82 rfl (infoMca _ _)
  ·have y := HB2.out.word q hq
   have fr := HB2.out.free q
   go_wp2_with fail
   go_still_tail 9, (by kernel_rfl)
   change wpList _ _ _ _ _ w2.drew
   go_upto_region 7 with fail
   have hb3 : Mp (w2.setCell ⟨w.heap.size, q, none⟩ (.int .u64 (bits .or .u64 ((wd (upd f k false) q : Nat) : Int) (IntKind.u64.wrap (2 ^ s))))).drew w.heap.size (upd f k true) n :=
    (HB2.out.put q hq _ (by rw [Hwr.out, Hon.out]) (fun j hj => (Hoth.out true j hj).trans (Hoth.out false j hj).symm)).drew
   have hz3 : Box (w2.setCell ⟨w.heap.size, q, none⟩ (.int .u64 (bits .or .u64 ((wd (upd f k false) q : Nat) : Int) (IntKind.u64.wrap (2 ^ s))))).drew (w.heap.size + 1) 82 #[.int .u64 0, .int .u64 0, .int .u64 0, .int .u64 0, .int .u64 0, .int .u64 0, .int .u64 0, .int .u64 0, .int .u64 0, .int .u64 0, .int .u64 0, .int .u64 0, .int .u64 0, .int .u64 0, .int .u64 0, .int .u64 0, .int .i64 0] := (HZ2.out.far (p := ⟨w.heap.size, q, none⟩) (by simp) _).drew
   have k3 : Kp (fun _ => False) w (w2.setCell ⟨w.heap.size, q, none⟩ (.int .u64 (bits .or .u64 ((wd (upd f k false) q : Nat) : Int) (IntKind.u64.wrap (2 ^ s))))).drew := (K2.out.setCell (p := ⟨w.heap.size, q, none⟩) (.inl (Nat.le_refl _)) _).drew
   generalize (w2.setCell ⟨w.heap.size, q, none⟩ (.int .u64 (bits .or .u64 ((wd (upd f k false) q : Nat) : Int) (IntKind.u64.wrap (2 ^ s))))).drew = w3 at hb3 hz3 k3 ⊢
   have HB3 := hHd hb3
   have HZ3 := hHd hz3
   have K3 := hHd k3
   clear y fr hb3 hz3 k3
   go_wp2_with (first | (refine wpList_load_mid rfl 82 (.tmp 3) rfl w.heap.size 0 rfl (mcs (upd f k true) n) _ (Mp.range HB3.out) Tryz.underlying82 rfl (infoMca _ _) ?_) | (refine bstore_box rfl 82 (.tmp 6) (.tmp 38) rfl (w.heap.size + 1) (mcs (upd f k true) n) rfl rfl HZ3.out (by rw [mcs_length]; rfl) (infoMcs _ _) (mcs_one _ _) ?_; intro w5 hb5 hk5) | fail)
   refine bodyPost_ret (v := .agg (mcs (upd f k true) n).toArray) ?_ rfl ⟨rfl, K3.out.trans_new hk5 (fun k e => .inl (by omega))⟩
   exact results_cell_row Hr.out _ _ (w.heap.size + 1) 82 _ (0, 0) _ rfl hb5 Tryz.underlying82 rfl (infoMca _ _)
def cntF (f : Nat -> Bool) (m : Nat) : Nat := ((List.range m).map f).count true
theorem cntF_add (f : Nat -> Bool) (a b : Nat) : cntF f (a + b) = cntF f a + ((List.range b).map fun i => f (a + i)).count true := by
 rw [cntF, List.range_add, List.map_append, List.count_append, List.map_map]; rfl
theorem cntF_le (f : Nat -> Bool) (m : Nat) : cntF f m <= m := by
 have := List.count_le_length (a := true) (l := (List.range m).map f)
 rw [List.length_map, List.length_range] at this
 exact this
theorem cntF_one (f : Nat -> Bool) (a : Nat) : cntF f (a + 1) = cntF f a + if f a then 1 else 0 := by
 rw [cntF_add]
 cases h : f a <;> simp [List.range_succ, h]
theorem cntF_off (f : Nat -> Bool) (n b : Nat) (h : ∀ i, n <= i -> f i = false) : cntF f (n + b) = cntF f n := by
 induction b with
 |zero => rfl
 |succ b ih => rw [<- Nat.add_assoc, cntF_one, ih, h (n + b) (by omega)]; rfl
structure Wf (f : Nat -> Bool) (n : Nat) : Prop where
 few : n <= 1024
 off : ∀ i, n <= i -> f i = false
theorem Wf.cnt {f : Nat -> Bool} {n : Nat} (h : Wf f n) : cntF f 1024 = cntF f n := by
 have := cntF_off f n (1024 - n) h.off
 rwa [Nat.add_sub_cancel' h.few] at this
def wcs (f : Nat -> Bool) : List Value := (List.range 16).map fun j => Value.int .u64 ((wd f j : Nat) : Int)
theorem wcs_length (f : Nat -> Bool) : (wcs f).length = 16 := by simp [wcs]
theorem wcs_get (f : Nat -> Bool) (j : Nat) (hj : j < 16) : (wcs f)[j]? = some (.int .u64 ((wd f j : Nat) : Int)) := by
 rw [wcs, List.getElem?_map, List.getElem?_range hj]; rfl
theorem Mp.words {w : World} {g : Nat} {f : Nat -> Bool} {n : Nat} (h : Mp w g f n) : w.rangeAt g 0 (wcs f) := fun j v hj => by
 have hl : j < 16 := by have := (List.getElem?_eq_some_iff.1 hj).1; rwa [wcs_length] at this
 rw [wcs_get _ _ hl] at hj
 rw [Nat.zero_add]
 exact (h.word j hl).trans hj
theorem infoArr : (Tryz.prog.info? 80).map (·.size) = some 16 := by kernel_rfl
theorem info_parts0 {P : Program} {t : TypeId} {x : Option Value × Nat × Nat} (h : (P.info? t).map (fun i => (i.zero, i.size, i.bytes)) = some x) : ∃ i, P.info? t = some i /\ i.zero = x.1 /\ i.size = x.2.1 /\ i.bytes = x.2.2 := by
 cases hi : P.info? t with
 |none => rw [hi] at h; cases h
 |some i => rw [hi] at h; cases h; exact ⟨i, rfl, rfl, rfl, rfl⟩
theorem infoU64 : (Tryz.prog.info? 79).map (fun i => (i.zero, i.size, i.bytes)) = some (some (.int .u64 0), 1, 8) := by kernel_rfl
theorem used_any (f : Nat -> Bool) (n : Nat) (w : World) (h : Wf f n) :
  Calls Tryz.prog 62 #[.agg (mcs f n).toArray] w fun e w' => e = .returned (.int .i64 ((cntF f n : Nat) : Int)) /\ Kp (fun _ => False) w w' := by
 obtain ⟨W, hW, hb, hk⟩ : ∃ W, W = w.alloc (.cells (mcs f n).toArray 82) /\ Mp W w.heap.size f n /\ Kp (fun _ => False) w W := ⟨_, rfl, Mp.new w f n, (Kp.refl _ w).alloc _⟩
 have HW := hHd hW
 have K := hHd hk
 have HB := hHd hb
 clear hW hb hk
 rw [<- h.cnt]
 clear h
 have Hg : Hid (∀ j, j < 16 -> (wcs f).toArray[j]? = some (.int .u64 ((wd f j : Nat) : Int))) := hHd (fun j hj => (List.getElem?_toArray (xs := wcs f) (i := j)).trans (wcs_get f j hj))
 have Hp := hHd (wd_pop f)
 have Hl := hHd (wd_lt f)
 have Ha := hHd (fun j => cntF_add f (64 * j) 64)
 have Hle := hHd (cntF_le f)
 have Hz : Hid (cntF f 0 = 0) := hHd rfl
 go_enter Tryz.func62, Tryz.ntmps62
 go_upto_region 1 with fail
 rw [<- HW.out]
 go_wp2_with (first | (refine wpList_load_mid rfl 80 (.tmp 6) rfl w.heap.size 0 rfl (wcs f) _ (Mp.words HB.out) Tryz.underlying80 rfl ?c2 ?_) | fail)
 case c2 => rw [wcs_length]; exact infoArr
 generalize (wcs f).toArray = KC at *
 clear HB HW
 go_loop [3, 8] (fun s i => ∃ k : Nat, k <= 16 /\ i = .int .i64 k /\ s = .int .i64 ((cntF f (64 * k) : Nat) : Int)) (fun _ i => 16 - (intOf i).toNat)
 case atStart => exact ⟨0, by omega, rfl, by rw [Nat.mul_zero, Hz.out]; rfl⟩
 case round =>
  obtain ⟨k, hk, rfl, rfl⟩ := hrel
  by_cases hlt : k < 16
  ·have hkk : (k : Int) < 16 := by omega
   obtain ⟨i0, hi, hz0, hz1, hz2⟩ := info_parts0 infoU64
   have hidx := fun w => run_index_agg (P := Tryz.prog) w 80 79 16 .i64 .u64 KC k _ i0 Tryz.underlying80 Tryz.underlying79 hi hz1 hlt (Hg.out k hlt)
   have hpop := Hp.out k
   have hlk := Hl.out k
   have hak := hHd (Ha.out k)
   have hc0 := Hle.out (64 * k)
   have hc1 := List.count_le_length (a := true) (l := (List.range 64).map fun i => f (64 * k + i))
   rw [List.length_map, List.length_range] at hc1
   clear hi hz0 hz1 hz2
   generalize ((List.range 64).map fun i => f (64 * k + i)).count true = d at *
   obtain ⟨x, hx⟩ : ∃ x, wd f k = x := ⟨_, rfl⟩
   rw [hx] at hidx hpop hlk
   obtain ⟨c, hc⟩ : ∃ c, cntF f (64 * k) = c := ⟨_, rfl⟩
   rw [hc] at hak hc0 ⊢
   have HP := hHd (pop_any x d W hlk hpop)
   have hcu : c <= 1024 := by omega
   clear hc hx hlk hpop
   go_wp2_with fail
   refine (HP.out).mono ?_
   rintro e w' ⟨rfl, rfl⟩
   go_wp2_with fail
   go_round
   case rel => exact ⟨k + 1, by omega, by go_num, by rw [show 64 * (k + 1) = 64 * k + 64 by omega, hak.out, Int.natCast_add]⟩
   case measure => simp [intOf]; omega
  ·obtain rfl : k = 16 := by omega
   go_wp2_with fail
   go_ret
   exact ⟨rfl, K.out⟩
theorem made_rep (k m : Nat) (hk : 0 < k) (z : Value) : madeCells (List.replicate k z).toArray m = (List.replicate m z).toArray := by
 apply Array.ext
 ·simp [madeCells]
 ·intro i h1 h2
  have hm : i % k < (List.replicate k z).toArray.size := by simpa using Nat.mod_lt i hk
  have e : (List.replicate k z).toArray[i % (List.replicate k z).toArray.size]! = z := by
   rw [show (List.replicate k z).toArray.size = k by simp]
   rw [getElem!_pos (List.replicate k z).toArray (i % k) hm]
   simp
  simp only [madeCells, Array.getElem_map, Array.getElem_range, e]
  simp
theorem make_row {P : Program} (t e : TypeId) (i : TypeInfo) (z : Value) (ht : P.underlying t = some (.slice e)) (hi : P.info? e = some i) (hz : i.zero = some z) (hs : i.size = 1) (hb : i.bytes = 1) (hc : z.cells = #[z]) (n : Nat) (hn : n <= 1048576) (W : World) :
  (Instr.makeSlice t (.int .i64 n) (.int .i64 n)).run P W = .ok (.slice (some ⟨W.heap.size, 0, none⟩) n n) (W.alloc (.cells (List.replicate n z).toArray e)) := by
 have := run_make (P := P) W t e i z ht hi hz .i64 .i64 n n (by omega) (by omega) (by rw [hb]; omega) (by omega)
 rw [hc, hs, Nat.mul_one, Int.toNat_natCast, show (#[z] : Array Value) = (List.replicate 1 z).toArray from rfl, made_rep 1 n (by decide)] at this
 exact this
theorem infoU8 : (Tryz.prog.info? 5).map (fun i => (i.zero, i.size, i.bytes)) = some (some (.int .u8 0), 1, 1) := by kernel_rfl
theorem make_bytes (n : Nat) (hn : n <= 1048576) (W : World) : (Instr.makeSlice 50 (.int .i64 n) (.int .i64 n)).run Tryz.prog W = .ok (.slice (some ⟨W.heap.size, 0, none⟩) n n) (W.alloc (.cells (bcs (List.replicate n 0)).toArray 5)) := by
 obtain ⟨i, h1, h2, h3, h4⟩ := info_parts0 infoU8
 have := make_row (P := Tryz.prog) 50 5 i (.int .u8 0) Tryz.underlying50 h1 h2 h3 h4 rfl n hn W
 rw [this]
 simp [bcs]
def byN (f : Nat -> Bool) (k : Nat) : Nat := ofB ((List.range 8).map fun i => f (8 * k + i))
theorem byN_lt (f : Nat -> Bool) (k : Nat) : byN f k < 256 := by
 have := ofB_lt ((List.range 8).map fun i => f (8 * k + i))
 rw [List.length_map, List.length_range] at this
 exact this
theorem byN_bit (f : Nat -> Bool) (k i : Nat) : (byN f k).testBit i = (decide (i < 8) && f (8 * k + i)) := by
 rw [byN, ofB_bit, List.getD_eq_getElem?_getD, List.getElem?_map]
 by_cases h : i < 8
 ·rw [List.getElem?_range h]; simp [h]
 ·rw [List.getElem?_eq_none (by simpa using h)]; simp [h]
theorem byN_wd (f : Nat -> Bool) (k : Nat) : wd f (k * 8 / 64) / 2 ^ (k * 8 % 64) % 256 = byN f k := by
 refine Nat.eq_of_testBit_eq fun i => ?_
 rw [show (256 : Nat) = 2 ^ 8 by decide, Nat.testBit_mod_two_pow, Nat.testBit_div_two_pow, wd_bit, byN_bit]
 by_cases hi : i < 8
 ·have h1 : k * 8 % 64 + i < 64 := by omega
  have h2 : 64 * (k * 8 / 64) + (k * 8 % 64 + i) = 8 * k + i := by omega
  have h3 : i + k * 8 % 64 < 64 := by omega
  have h4 : 64 * (k * 8 / 64) + (i + k * 8 % 64) = 8 * k + i := by omega
  simp [hi, h3, h4]
 ·simp [hi]
theorem byN_off (f : Nat -> Bool) (k : Nat) (h : ∀ i, 8 * k <= i -> f i = false) : byN f k = 0 := by
 refine Nat.eq_of_testBit_eq fun i => ?_
 rw [byN_bit, h _ (by omega)]; simp
def pageK (f : Nat -> Bool) (m : Nat) : List UInt8 := (List.range 512).map fun k => if k < m then UInt8.ofNat (byN f k) else 0
def pageL (f : Nat -> Bool) : List UInt8 := (List.range 512).map fun k => UInt8.ofNat (byN f k)
theorem pageL_length (f : Nat -> Bool) : (pageL f).length = 512 := by simp [pageL]
theorem pageK_length (f : Nat -> Bool) (m : Nat) : (pageK f m).length = 512 := by simp [pageK]
theorem pageL_get (f : Nat -> Bool) (k : Nat) (h : k < 512) : (pageL f)[k]? = some (UInt8.ofNat (byN f k)) := by
 rw [pageL, List.getElem?_map, List.getElem?_range h]; rfl
theorem pageK_get (f : Nat -> Bool) (m k : Nat) (h : k < 512) : (pageK f m)[k]? = some (if k < m then UInt8.ofNat (byN f k) else 0) := by
 rw [pageK, List.getElem?_map, List.getElem?_range h]; rfl
theorem pageK_zero (f : Nat -> Bool) : pageK f 0 = List.replicate 512 0 := by
 refine List.ext_getElem? fun j => ?_
 rcases Nat.lt_or_ge j 512 with h | h
 ·rw [pageK_get _ _ _ h, List.getElem?_replicate_of_lt h, if_neg (by omega)]
 ·rw [List.getElem?_eq_none (by rw [pageK_length]; exact h), List.getElem?_eq_none (by rw [List.length_replicate]; exact h)]
theorem pageK_set (f : Nat -> Bool) (k : Nat) (hk : k < 512) : (pageK f k).set k (UInt8.ofNat (byN f k)) = pageK f (k + 1) := by
 refine List.ext_getElem? fun j => ?_
 rw [List.getElem?_set]
 by_cases hj : k = j
 ·subst hj
  rw [if_pos rfl, if_pos (by rw [pageK_length]; exact hk), pageK_get _ _ _ hk, if_pos (by omega)]
 ·rw [if_neg hj]
  rcases Nat.lt_or_ge j 512 with h | h
  ·rw [pageK_get _ _ _ h, pageK_get _ _ _ h]
   congr 1
   by_cases h1 : j < k
   ·rw [if_pos h1, if_pos (by omega)]
   ·rw [if_neg h1, if_neg (by omega)]
  ·rw [List.getElem?_eq_none (by rw [pageK_length]; exact h), List.getElem?_eq_none (by rw [pageK_length]; exact h)]
theorem pageK_end (f : Nat -> Bool) (n : Nat) (h : Wf f n) : pageK f 128 = pageL f := by
 refine List.ext_getElem? fun j => ?_
 rcases Nat.lt_or_ge j 512 with hj | hj
 ·rw [pageK_get _ _ _ hj, pageL_get _ _ hj]
  congr 1
  split
  ·rfl
  ·next h1 => rw [byN_off f j fun i hi => h.off i (by have := h.few; omega)]; rfl
 ·rw [List.getElem?_eq_none (by rw [pageK_length]; exact hj), List.getElem?_eq_none (by rw [pageL_length]; exact hj)]
theorem bcs_set' (l : List UInt8) (k : Nat) (c : UInt8) : (bcs l).toArray.setIfInBounds k (.int .u8 c.toNat) = (bcs (l.set k c)).toArray := by
 rw [List.setIfInBounds_toArray]
 congr 1
 simp [bcs, List.map_set]
def NewB (w w' : World) (g : Nat) (l : List UInt8) : Prop := w.heap.size <= g /\ Box w' g 5 (bcs l).toArray
theorem NewB.rd {w w' : World} {g : Nat} {l : List UInt8} (h : NewB w w' g l) : Rd w' (some ⟨g, 0, none⟩) l :=
 .inr ⟨g, 0, rfl, fun j u hj => by rw [h.2.cell, Nat.zero_add]; simp [bcs_get, hj]⟩
theorem bytes_any (f : Nat -> Bool) (n : Nat) (w : World) (h : Wf f n) :
  Calls Tryz.prog 106 #[.agg (mcs f n).toArray] w fun e w' => ∃ g, e = .returned (.slice (some ⟨g, 0, none⟩) 512 512) /\ NewB w w' g (pageL f) /\ Kp (fun _ => False) w w' := by
 obtain ⟨W, hW, hb, hkw⟩ : ∃ W, W = w.alloc (.cells (mcs f n).toArray 82) /\ Mp W w.heap.size f n /\ Kp (fun _ => False) w W := ⟨_, rfl, Mp.new w f n, (Kp.refl _ w).alloc _⟩
 have HW := hHd hW
 have hsz : W.heap.size = w.heap.size + 1 := by rw [hW]; simp
 have hmk : (Instr.makeSlice 50 (.int .i64 512) (.int .i64 512)).run Tryz.prog W = .ok (.slice (some ⟨W.heap.size, 0, none⟩) 512 512) (W.alloc (.cells (bcs (List.replicate 512 0)).toArray 5)) := make_bytes 512 (by decide) W
 obtain ⟨W1, hW1, hb1, hm1, hk1⟩ : ∃ W1, W1 = W.alloc (.cells (bcs (List.replicate 512 0)).toArray 5) /\ Box W1 (w.heap.size + 1) 5 (bcs (pageK f 0)).toArray /\ Mp W1 w.heap.size f n /\ Kp (fun _ => False) w W1 := by
  refine ⟨_, rfl, ?_, hb.alloc _, hkw.alloc _⟩
  have := Box.new W 5 (bcs (List.replicate 512 0)).toArray
  rwa [hsz, <- pageK_zero f] at this
 rw [<- hW1, hsz] at hmk
 have hend := hHd (pageK_end f n h)
 have Hbw := hHd (byN_wd f)
 have Hbl := hHd (byN_lt f)
 have Hset := hHd (pageK_set f)
 have B1 := hHd hb1
 have M1 := hHd hm1
 have K1 := hHd hk1
 clear hb hkw hsz hW1 hb1 hm1 hk1 h hW
 go_enter Tryz.func106, Tryz.ntmps106
 go_upto_region 1 with fail
 rw [<- HW.out]
 go_wp2_with fail
 clear hmk
 go_loopw [8] (fun i wr => ∃ k : Nat, k <= 128 /\ i = .int .i64 k /\ Box wr (w.heap.size + 1) 5 (bcs (pageK f k)).toArray /\ Mp wr w.heap.size f n /\ Kp (fun _ => False) w wr)
  (fun i _ => 128 - (intOf i).toNat)
 case atStart => exact ⟨0, Nat.zero_le _, rfl, B1.out, M1.out, K1.out⟩
 case round =>
  obtain ⟨k, hk, rfl, hb, hm, hkw⟩ := hrel
  have HB := hHd hb
  have HM := hHd hm
  have HK := hHd hkw
  by_cases hlt : k < 128
  ·have hc : wr.cell? ⟨w.heap.size + 1, k, none⟩ = some (.int .u8 0) := by
    rw [hb.cell]
    simp [bcs_get, pageK_get f k k (by omega)]
   have hf := hb.free k
   have y := HM.out.word (k * 8 / 64) (by omega)
   have hpl := hHd (place_any (k * 8) wr (by omega))
   have hby := Hbw.out k
   have hbl := hHd (Hbl.out k)
   have hst := hHd (Hset.out k (by omega))
   have hm8 : (k : Int) * 8 = ((k * 8 : Nat) : Int) := by omega
   have Hm8 := hHd hm8
   have hq : k * 8 / 64 < 16 := by omega
   have hs : k * 8 % 64 < 64 := Nat.mod_lt _ (by decide)
   clear hb hm hkw
   obtain ⟨q, hqe⟩ : ∃ q, k * 8 / 64 = q := ⟨_, rfl⟩
   obtain ⟨s, hse⟩ : ∃ s, k * 8 % 64 = s := ⟨_, rfl⟩
   rw [hqe] at hq y
   rw [hse] at hs
   rw [hqe, hse] at hpl hby
   have hxl := wd_lt f q
   obtain ⟨x, hxe⟩ : ∃ x, wd f q = x := ⟨_, rfl⟩
   rw [hxe] at y hby hxl
   have hqi : (q : Int) < 16 := by omega
   have hsi : (s : Int) < 64 := by omega
   have hb8 : ((x : Int) / 2 ^ s) % 256 = ((byN f k : Nat) : Int) := by
    rw [<- hby]; simp
   obtain ⟨bb, hbb⟩ : ∃ bb, byN f k = bb := ⟨_, rfl⟩
   rw [hbb] at hb8 hbl hst
   have Hb8 := hHd hb8
   clear hbb
   clear hqe hse hxe hby hm8 hb8 hxl
   go_wp2_with fail
   rw [Hm8.out]
   refine (hpl.out).mono ?_
   rintro e w' ⟨rfl, rfl⟩
   go_wp2_with fail
   go_roundw
   case rel =>
    refine ⟨k + 1, by omega, by go_num, ?_, ?_, HK.out.setCell (p := ⟨w.heap.size + 1, k, none⟩) (.inl (by simp)) _⟩
    ·have := HB.out.put k (.int .u8 (UInt8.ofNat (bb)).toNat)
     rw [bcs_set', hst.out] at this
     have e : ((UInt8.ofNat (bb)).toNat : Int) = (x : Int) / 2 ^ s % 256 := by
      rw [Hb8.out, UInt8.toNat_ofNat_of_lt' (by exact hbl.out)]
     rw [e] at this
     exact this
    ·exact HM.out.far (p := ⟨w.heap.size + 1, k, none⟩) (by simp) _
   case measure => simp [intOf]; omega
  ·obtain rfl : k = 128 := by omega
   clear hb hm hkw
   go_wp2_with fail
   go_ret
   refine ⟨_, rfl, ⟨by omega, ?_⟩, HK.out⟩
   have := HB.out
   rwa [hend.out] at this
end Go.Proofs.YtepaeliamhjgiaaGreatDoor.Bt
