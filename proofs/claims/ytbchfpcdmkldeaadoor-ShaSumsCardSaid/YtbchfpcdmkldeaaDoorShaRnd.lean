/- The rounds of one block: what the 64 rounds make of the eight words, the ring of words beside them. Condition: the table of constants reads as the program's text lays it. -/
import Derived.Test.YtbchfpcdmkldeaaDoorShaRot
import Derived.StillTailTactics
namespace Go.Proofs.YtbchfpcdmkldeaaDoor
open Go.RowKit

/-- The tables as the program's text lays them. -/
def kList : List Int := [1116352408, 1899447441, 3049323471, 3921009573, 961987163, 1508970993, 2453635748, 2870763221, 3624381080, 310598401, 607225278, 1426881987, 1925078388, 2162078206, 2614888103, 3248222580, 3835390401, 4022224774, 264347078, 604807628, 770255983, 1249150122, 1555081692, 1996064986, 2554220882, 2821834349, 2952996808, 3210313671, 3336571891, 3584528711, 113926993, 338241895, 666307205, 773529912, 1294757372, 1396182291, 1695183700, 1986661051, 2177026350, 2456956037, 2730485921, 2820302411, 3259730800, 3345764771, 3516065817, 3600352804, 4094571909, 275423344, 430227734, 506948616, 659060556, 883997877, 958139571, 1322822218, 1537002063, 1747873779, 1955562222, 2024104815, 2227730452, 2361852424, 2428436474, 2756734187, 3204031479, 3329325298]
def kCells : List Value := kList.map (.int .u32)
def kZ (i : Nat) : Int := kList.getD i 0
def Tbl (w : World) : Prop := w.rangeAt 1 0 kCells
def ringCells (R : Nat → Int) : List Value := (List.range 16).map fun j => .int .u32 (R j)
theorem St.cells_eq (s : St) : s.cells = [.int .u32 s.a, .int .u32 s.b, .int .u32 s.c, .int .u32 s.d, .int .u32 s.e, .int .u32 s.f, .int .u32 s.g, .int .u32 s.h] := rfl
theorem St.cells_one (s : St) : ∀ v ∈ s.cells, v.oneCell' = true := fun v hv => by
  obtain ⟨_, _, rfl⟩ := List.mem_map.1 hv
  rfl
def zero8 : List Value := [.int .u32 0, .int .u32 0, .int .u32 0, .int .u32 0, .int .u32 0, .int .u32 0, .int .u32 0, .int .u32 0]

theorem Tbl.kp {w w' : World} {S : Nat → Prop} (h : Tbl w) (hk : Kp S w w') (hn : ¬ S 1) : Tbl w' := fun j v hj =>
  (hk.cell (p := ⟨1, 0 + j, none⟩) (World.block_lt_of_cell? w _ (h j v hj)) hn).trans (h j v hj)

theorem infoA8 : (Tryd.prog.info? 31).map (·.size) = some 8 := by kernel_rfl
theorem infoU32 : (Tryd.prog.info? 30).map (fun i => (i.zero, i.size, i.bytes)) = some (some (.int .u32 0), 1, 4) := by kernel_rfl
/-- Which word lies at place j of the ring when k rounds are behind it. -/
def atR (k j : Nat) : Nat := (max k 16 - 16) + (j + 64 - max k 16) % 16
theorem ringCells_start (b : Nat → Int) : ringCells (fun j => wZ b (atR 0 j)) = ringCells b := by
  unfold ringCells
  refine List.map_congr_left fun j hj => ?_
  have hj := List.mem_range.1 hj
  simp only
  rw [show atR 0 j = j by unfold atR; omega, wZ_small b j hj]

theorem ring_cell {w : World} {g : Nat} {t : TypeId} {R : Nat → Int} (h : Box w g t (ringCells R).toArray) (j : Nat) (hj : j < 16) : w.cell? ⟨g, j, none⟩ = some (.int .u32 (R j)) := by
  rw [h.cell]
  simp [ringCells, hj]
theorem atR_next (m c : Nat) (hc : c < 16) : atR (m + 16) ((m + 16 + c) % 16) = m + c ∨ 64 < m + 16 := by
  unfold atR; omega
theorem tmod_nat (k : Nat) : ((k : Int)).tmod 16 = ((k % 16 : Nat) : Int) := (Int.ofNat_tmod k 16).symm

theorem ring_put {w : World} {g : Nat} {t : TypeId} {b : Nat → Int} {k m r : Nat} (h : Box w g t (ringCells (fun j => wZ b (atR k j))).toArray) (hk : k = m + 16) (hk64 : k < 64) (hr : k % 16 = r) :
    Box (w.setCell ⟨g, r, none⟩ (.int .u32 (wZ b (m + 16)))) g t (ringCells (fun j => wZ b (atR (k + 1) j))).toArray := by
  have h' := h.put r (.int .u32 (wZ b (m + 16)))
  have e : (ringCells (fun j => wZ b (atR k j))).toArray.setIfInBounds r (.int .u32 (wZ b (m + 16))) = (ringCells (fun j => wZ b (atR (k + 1) j))).toArray := by
    rw [List.setIfInBounds_toArray]
    congr 1
    apply List.ext_getElem?
    intro j
    rw [List.getElem?_set]
    simp only [ringCells, List.length_map, List.length_range, List.getElem?_map]
    rcases Nat.lt_or_ge j 16 with hj | hj
    · rw [List.getElem?_range hj]
      by_cases e : r = j
      · rw [if_pos e, if_pos (by omega)]
        simp only [Option.map_some]
        rw [show atR (k + 1) j = m + 16 by unfold atR; omega]
      · rw [if_neg e]
        simp only [Option.map_some]
        rw [show atR (k + 1) j = atR k j by unfold atR; omega]
    · rw [List.getElem?_eq_none (l := List.range 16) (by simpa using hj)]
      rw [if_neg (by omega)]
      rfl
  rw [e] at h'
  exact h'
theorem ring_same {w : World} {g : Nat} {t : TypeId} {b : Nat → Int} {k : Nat} (h : Box w g t (ringCells (fun j => wZ b (atR k j))).toArray) (hk : k < 16) :
    Box w g t (ringCells (fun j => wZ b (atR (k + 1) j))).toArray := by
  have e : ringCells (fun j => wZ b (atR k j)) = ringCells (fun j => wZ b (atR (k + 1) j)) := by
    unfold ringCells
    refine List.map_congr_left fun j hj => ?_
    have hj := List.mem_range.1 hj
    simp only
    rw [show atR (k + 1) j = atR k j by unfold atR; omega]
  rw [← e]
  exact h
theorem ring_now {w : World} {g : Nat} {t : TypeId} {b : Nat → Int} {k r : Nat} (h : Box w g t (ringCells (fun j => wZ b (atR (k + 1) j))).toArray) (hk : k < 64) (hr : k % 16 = r) : w.cell? ⟨g, r, none⟩ = some (.int .u32 (wZ b k)) := by
  have := ring_cell h r (by omega)
  rwa [show atR (k + 1) r = k by unfold atR; omega] at this

set_option maxHeartbeats 4000000 in
set_option maxRecDepth 100000 in
theorem rounds_any (s : St) (bb : Nat → Int) (w : World) (ht : Tbl w) :
    Calls Tryd.prog 10 #[.agg s.cells.toArray, .agg (ringCells bb).toArray] w fun e w' => e = .returned (.agg (s.rnds kZ (wZ bb) 64).cells.toArray) ∧ Kp (fun _ => False) w w' := by
  have Hr : Hid (Tryd.f10.results = #[.cell 4 31]) := Lib.hid (by kernel_rfl)
  go_enter Tryd.func10, Tryd.ntmps10
  go_wp2_with fail
  have hb0 := ((Box.new w 31 s.cells.toArray).alloc (.cells (ringCells bb).toArray 33)).alloc (.cells zero8.toArray 31)
  have hb1 := (Box.new (w.alloc (.cells s.cells.toArray 31)) 33 (ringCells bb).toArray).alloc (.cells zero8.toArray 31)
  have hb2 := Box.new ((w.alloc (.cells s.cells.toArray 31)).alloc (.cells (ringCells bb).toArray 33)) 31 zero8.toArray
  have k0 := (((Kp.refl (fun _ => False) w).alloc (.cells s.cells.toArray 31)).alloc (.cells (ringCells bb).toArray 33)).alloc (.cells zero8.toArray 31)
  unfold zero8 at hb0 hb1 hb2 k0
  have hg1 : (w.alloc (.cells s.cells.toArray 31)).heap.size = w.heap.size + 1 := by simp
  have hg2 : ((w.alloc (.cells s.cells.toArray 31)).alloc (.cells (ringCells bb).toArray 33)).heap.size = w.heap.size + 2 := by simp
  rw [hg1] at hb1
  rw [hg2] at hb2
  clear hg1 hg2
  generalize ((w.alloc (.cells s.cells.toArray 31)).alloc (.cells (ringCells bb).toArray 33)).alloc (.cells #[.int .u32 0, .int .u32 0, .int .u32 0, .int .u32 0, .int .u32 0, .int .u32 0, .int .u32 0, .int .u32 0] 31) = w1 at *
  have c0 := hb0.cell 0
  have c1 := hb0.cell 1
  have c2 := hb0.cell 2
  have c3 := hb0.cell 3
  have c4 := hb0.cell 4
  have c5 := hb0.cell 5
  have c6 := hb0.cell 6
  have c7 := hb0.cell 7
  rw [St.cells_eq] at c0 c1 c2 c3 c4 c5 c6 c7
  simp at c0 c1 c2 c3 c4 c5 c6 c7
  go_quiet (fail)
  clear c0 c1 c2 c3 c4 c5 c6 c7
  have hb1' := hb1.drewN nq
  have hb2' := hb2.drewN nq
  have k1 := k0.drewN nq
  clear hb0 hb1 hb2 k0
  have ht1 : Tbl (w1.drewN nq) := ht.kp k1 (fun h => h)
  generalize w1.drewN nq = w2 at *
  have T := Lib.hid ht1
  have B1 := Lib.hid hb1'
  have B2 := Lib.hid hb2'
  have K1 := Lib.hid k1
  clear ht ht1 hb1' hb2' k1
  go_wp2_with (refine wpList_load_mid rfl _ (.global 1) rfl 1 0 rfl kCells _ ?c1 Tryd.underlying42 rfl ?c2 ?_)
  case c1 => exact T.out
  case c2 => kernel_rfl
  have hkc : ∀ i, i < 64 → kCells.toArray[i]? = some (.int .u32 (kZ i)) := fun i hi => by
    have h : ∀ i : Fin 64, kCells.toArray[i.val]? = some (.int .u32 (kZ i.val)) := by
      intro i
      have : kList[i.val]? = some (kZ i.val) := by
        rw [kZ, List.getD_eq_getElem?_getD, List.getElem?_eq_getElem i.isLt]; rfl
      simp only [kCells, List.getElem?_toArray, List.getElem?_map, this, Option.map_some]
    exact h ⟨i, hi⟩
  have Hkc := Lib.hid hkc
  clear hkc
  generalize kCells.toArray = KC at *
  go_loopw [5, 6, 7, 8, 9, 10, 11, 12, 34] (fun a b c d e f g h i wr => ∃ k : Nat, k ≤ 64 ∧ i = .int .i64 k ∧ a = .int .u32 (s.rnds kZ (wZ bb) k).a ∧ b = .int .u32 (s.rnds kZ (wZ bb) k).b ∧ c = .int .u32 (s.rnds kZ (wZ bb) k).c ∧ d = .int .u32 (s.rnds kZ (wZ bb) k).d ∧ e = .int .u32 (s.rnds kZ (wZ bb) k).e ∧ f = .int .u32 (s.rnds kZ (wZ bb) k).f ∧ g = .int .u32 (s.rnds kZ (wZ bb) k).g ∧ h = .int .u32 (s.rnds kZ (wZ bb) k).h ∧ Box wr (w.heap.size + 1) 33 (ringCells (fun j => wZ bb (atR k j))).toArray ∧ Kp (fun q => q = w.heap.size + 1) w2 wr) (fun _ _ _ _ _ _ _ _ i _ => 64 - (intOf i).toNat)
  case atStart => exact ⟨0, by omega, rfl, rfl, rfl, rfl, rfl, rfl, rfl, rfl, rfl, by rw [ringCells_start]; exact B1.out, Kp.refl _ _⟩
  case round =>
    obtain ⟨k, hk, rfl, rfl, rfl, rfl, rfl, rfl, rfl, rfl, rfl, hbx, hkp⟩ := hrel
    have Hbx := Lib.hid hbx
    have Hkp := Lib.hid hkp
    clear hbx hkp
    have Hstep : Hid (s.rnds kZ (wZ bb) (k + 1) = (s.rnds kZ (wZ bb) k).rnd (kZ k) (wZ bb k)) := Lib.hid rfl
    generalize ht : s.rnds kZ (wZ bb) k = t at *
    have Ht := Lib.hid ht
    clear ht
    by_cases hlt : k < 64
    · have hck := Hkc.out k hlt
      have hk64 : (k : Int) < 64 := by omega
      obtain ⟨i0, hi, hz0, hz1, hz2⟩ := info_parts infoU32
      have hidx := fun w => run_index_agg (P := Tryd.prog) w 42 30 64 .i64 .u32 KC k _ i0 Tryd.underlying42 Tryd.underlying30 hi hz1 hlt hck
      clear hi hz0 hz1 hz2 hck
      have t0 := tmod_nat k
      have l0 : k % 16 < 16 := Nat.mod_lt _ (by omega)
      have Hr0 : Hid (k % 16 = k % 16) := Lib.hid rfl
      obtain ⟨r0, hr0⟩ : ∃ r, k % 16 = r := ⟨_, rfl⟩
      rw [hr0] at t0 l0
      clear Hr0
      have Hr0 := Lib.hid hr0
      have i0 : (r0 : Int) < 16 := by omega
      rcases Nat.lt_or_ge k 16 with h16 | h16
      rotate_left
      obtain ⟨m, hm⟩ : ∃ m, k = m + 16 := ⟨k - 16, by omega⟩
      have a0 := (atR_next m 0 (by omega)).resolve_right (by omega)
      have a1 := (atR_next m 1 (by omega)).resolve_right (by omega)
      have a9 := (atR_next m 9 (by omega)).resolve_right (by omega)
      have a14 := (atR_next m 14 (by omega)).resolve_right (by omega)
      rw [← hm] at a0 a1 a9 a14
      have d0 := ring_cell Hbx.out ((k + 0) % 16) (by omega)
      have d1 := ring_cell Hbx.out ((k + 1) % 16) (by omega)
      have d9 := ring_cell Hbx.out ((k + 9) % 16) (by omega)
      have d14 := ring_cell Hbx.out ((k + 14) % 16) (by omega)
      have hfr := fun i => Hbx.out.free i
      simp only [a0, a1, a9, a14, Nat.add_zero] at d0 d1 d9 d14
      clear a0 a1 a9 a14
      have t1 : (IntKind.i64.wrap ((k : Int) + 1)).tmod 16 = (((k + 1) % 16 : Nat) : Int) := by have := tmod_nat (k + 1); rw [Int.natCast_add] at this; rw [IntWalk.i64_in _ (by omega)]; exact this
      have t9 : (IntKind.i64.wrap ((k : Int) + 9)).tmod 16 = (((k + 9) % 16 : Nat) : Int) := by have := tmod_nat (k + 9); rw [Int.natCast_add] at this; rw [IntWalk.i64_in _ (by omega)]; exact this
      have t14 : (IntKind.i64.wrap ((k : Int) + 14)).tmod 16 = (((k + 14) % 16 : Nat) : Int) := by have := tmod_nat (k + 14); rw [Int.natCast_add] at this; rw [IntWalk.i64_in _ (by omega)]; exact this
      have l1 : (k + 1) % 16 < 16 := Nat.mod_lt _ (by omega)
      have l9 : (k + 9) % 16 < 16 := Nat.mod_lt _ (by omega)
      have l14 : (k + 14) % 16 < 16 := Nat.mod_lt _ (by omega)
      rw [hr0] at d0
      clear hr0
      generalize (k + 1) % 16 = r1 at *
      generalize (k + 9) % 16 = r9 at *
      generalize (k + 14) % 16 = r14 at *
      have i1 : (r1 : Int) < 16 := by omega
      have i9 : (r9 : Int) < 16 := by omega
      have i14 : (r14 : Int) < 16 := by omega
      have Hm := Lib.hid hm
      have hk16 : (16 : Int) ≤ k := by omega
      clear hm
      go_wp2_with fail
      refine wp_region_still_tail 25 (by kernel_rfl) (by kernel_rfl) ?_
      simp only [List.take_succ_cons, List.take_zero, List.drop_succ_cons, List.drop_zero]
      change wpStill _ _ wr.drew _ _ _
      repeat still_step
      still_call s0_any (wZ bb (m + 1)) wr.drew
      repeat still_step
      still_call s1_any (wZ bb (m + 14)) wr.drew
      repeat still_step
      refine wpStill_nil ?_
      change wpList _ _ _ _ _ wr.drew
      go_wp2_with fail
      have hbn : Hid (Box (wr.setCell ⟨w.heap.size + 1, r0, none⟩ (.int .u32 (wZ bb (m + 16)))).drew (w.heap.size + 1) 33 (ringCells (fun j => wZ bb (atR (k + 1) j))).toArray) := Lib.hid (ring_put Hbx.out Hm.out hlt Hr0.out)
      have hkn : Hid (Kp (fun q => q = w.heap.size + 1) w2 (wr.setCell ⟨w.heap.size + 1, r0, none⟩ (.int .u32 (wZ bb (m + 16)))).drew) := Lib.hid ((Hkp.out.setCell (p := ⟨w.heap.size + 1, r0, none⟩) (.inr rfl) _).drew)
      rw [wZ_big] at hbn hkn
      unfold addZ at hbn hkn
      generalize (wr.setCell ⟨w.heap.size + 1, r0, none⟩ (.int .u32 ((wZ bb m + ((s0Z (wZ bb (m + 1)) + wZ bb (m + 9)) % 4294967296 + s1Z (wZ bb (m + 14))) % 4294967296) % 4294967296))).drew = wq at *
      clear d0 d1 d9 d14 t1 t9 t14 l1 l9 l14 i1 i9 i14 hfr Hbx Hkp hk16 Hm
      rotate_left
      clear hr0
      have hbn := Lib.hid (ring_same Hbx.out h16)
      have hkn := Hkp
      have hk16 : ¬ ((16 : Int) ≤ k) := by omega
      clear Hbx Hkp
      go_wp2_with fail
      generalize wr = wq at *
      all_goals
        have d0 := ring_now hbn.out hlt Hr0.out
        go_quiet ((go_at_call 19; refine Calls.quiet_of_same (rotr_z _ _ _ (by decide))))
        have hbn := Lib.hid (hbn.out.drewN nq)
        have hkn := Lib.hid (hkn.out.drewN nq)
        clear d0
        generalize wq.drewN nq = wp at *
        go_wp2_with fail
        refine (rotr_z _ _ _ (by decide)).mono ?_
        rintro e w' ⟨rfl, rfl⟩
        go_wp2_with fail
        refine (rotr_z _ _ _ (by decide)).mono ?_
        rintro e w' ⟨rfl, rfl⟩
        go_wp2_with fail
        refine (rotr_z _ _ _ (by decide)).mono ?_
        rintro e w' ⟨rfl, rfl⟩
        go_wp2_with fail
        go_roundw
        case rel =>
          refine ⟨k + 1, by omega, by go_num, ?_, ?_, ?_, ?_, ?_, ?_, ?_, ?_, hbn.out, hkn.out⟩
          all_goals (rw [Hstep.out]; rfl)
        case measure => simp [intOf]; omega
    · obtain rfl : k = 64 := by omega
      have hb2 : Hid (Box wr (w.heap.size + 1 + 1) 31 zero8.toArray) := Lib.hid (B2.out.kp Hkp.out (by omega))
      have hdone : Hid (Kp (fun _ => False) w (wr.setCells (w.heap.size + 1 + 1) 0 t.cells.toArray.toList)) := Lib.hid (Kp.setCells _ _ _ (K1.out.trans_new Hkp.out (fun q hq => .inl (by omega))) (.inl (by omega)))
      have hbox : Hid (Box (wr.setCells (w.heap.size + 1 + 1) 0 t.cells.toArray.toList) (w.heap.size + 1 + 1) 31 t.cells.toArray) := Lib.hid (hb2.out.write (by rfl))
      clear Hstep Hbx
      go_wp2_with (refine wpList_store_mid rfl _ (.tmp 4) (.tmp 132) rfl (w.heap.size + 1 + 1) 0 t.cells.toArray rfl rfl ?c1 ?c2 ?c3 ?_)
      case c1 => exact hb2.out.there
      case c2 => exact Option.map_eq_some_iff.1 (show (Tryd.prog.info? 31).map (·.size) = some t.cells.length from infoA8)
      case c3 => exact St.cells_one t
      refine bodyPost_ret (v := .agg t.cells.toArray) ?_ rfl ⟨by rw [Ht.out], hdone.out⟩
      exact results_cell_row Hr.out _ _ (w.heap.size + 1 + 1) _ _ (0, 0) _ rfl hbox.out Tryd.underlying31 rfl (by kernel_rfl)
end Go.Proofs.YtbchfpcdmkldeaaDoor
