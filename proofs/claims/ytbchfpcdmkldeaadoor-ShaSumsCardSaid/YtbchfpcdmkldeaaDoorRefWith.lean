/- The reference's hash: what With answers of its tables. Condition: at most 2^32 bytes. -/
import Derived.Test.YtbchfpcdmkldeaaDoorRefWithA
import Derived.Test.YtbchfpcdmkldeaaDoorRefBlkA
namespace Go.Proofs.YtbchfpcdmkldeaaDoor
open Go.RowKit

theorem zero64 : (Tryd.prog.info? 42).map (·.zero) = some (some (.agg (w64 (fun _ => 0)).toArray)) := by kernel_rfl
theorem run_zero64 (w : World) : (zeroValue 42).run Tryd.prog w = .ok (.agg (w64 (fun _ => 0)).toArray) w := by
  obtain ⟨i, hi, hz⟩ := Option.map_eq_some_iff.1 zero64
  simp [zeroValue, typeInfo, hi, hz]
theorem tcells_8 {v : World} {g : Nat} {t : TypeId} {f : Nat → Int} (h : Box v g t (tcells f).toArray) : v.cell? ⟨g, 64, none⟩ = some (.int .u32 (f 0)) ∧ v.cell? ⟨g, 65, none⟩ = some (.int .u32 (f 1)) ∧ v.cell? ⟨g, 66, none⟩ = some (.int .u32 (f 2)) ∧ v.cell? ⟨g, 67, none⟩ = some (.int .u32 (f 3)) ∧ v.cell? ⟨g, 68, none⟩ = some (.int .u32 (f 4)) ∧ v.cell? ⟨g, 69, none⟩ = some (.int .u32 (f 5)) ∧ v.cell? ⟨g, 70, none⟩ = some (.int .u32 (f 6)) ∧ v.cell? ⟨g, 71, none⟩ = some (.int .u32 (f 7)) :=
  ⟨tcells_h h 0 (by omega), tcells_h h 1 (by omega), tcells_h h 2 (by omega), tcells_h h 3 (by omega), tcells_h h 4 (by omega), tcells_h h 5 (by omega), tcells_h h 6 (by omega), tcells_h h 7 (by omega)⟩

set_option maxHeartbeats 4000000 in
set_option maxRecDepth 100000 in
theorem with_any (l : List UInt8) (w : World) (hl : l.length ≤ 4294967296)
    (hblk : ∀ w : World, Calls Tryd.prog 21 #[.string ⟨l.toArray⟩] w fun e w' => ∃ v, e = .returned v ∧ w'.ownsRow w.heap.size 30 1 v ((tailL l l.length).length / 4) (c32 (wordsN (tailL l l.length) ((tailL l l.length).length / 4))) ∧ Kp (fun _ => False) w w') :
    Calls Tryd.prog 15 #[.agg (t72 tabN).toArray, .string ⟨l.toArray⟩] w fun e w' => e = .returned (.agg (hCells (hashZ (shaZ l))).toArray) ∧ Kp (fun _ => False) w w' := by
  have Hr : Hid (Tryd.f15.results = #[.cell 4 25]) := Lib.hid (by kernel_rfl)
  have Hsha := Lib.hid (sha_whole l)
  have Hpl := Lib.hid (padded_length l)
  have Hbl := Lib.hid hblk
  clear hblk
  have hPb : (tailL l l.length).length ≤ 4294967600 := by
    simp only [tailL, be8, zerosN, List.length_append, List.length_replicate, List.length_map, List.length_range, List.length_singleton]
    omega
  rw [tcells_start]
  generalize htl : tailL l l.length = P at *
  have hq : Hid (P.length / 4 = 16 * (P.length / 64)) := Lib.hid (by have := Hpl.out; omega)
  rw [hq.out] at Hbl
  have hp0 : 64 ≤ P.length := by
    have h1 := Hpl.out
    have h2 : 0 < P.length := by
      rw [← htl]
      simp only [tailL, be8, zerosN, List.length_append, List.length_replicate, List.length_map, List.length_range, List.length_singleton]
      omega
    omega
  clear htl
  obtain ⟨M, hM⟩ : ∃ M, P.length / 64 = M := ⟨_, rfl⟩
  rw [hM] at Hsha Hpl Hbl
  have hMb : Hid (1 ≤ M ∧ M ≤ 67108900) := Lib.hid (by omega)
  clear hM hq hPb hp0
  have Hz := Lib.hid run_zero64
  have Hhl := Lib.hid hl
  clear hl
  obtain ⟨TS, hTS⟩ : ∃ TS, (tcells (fun q => h0Z.list.getD q 0)).toArray = TS := ⟨_, rfl⟩
  rw [hTS]
  have HTS := Lib.hid hTS
  clear hTS
  go_enter Tryd.func15, Tryd.ntmps15
  go_wp2_with fail
  have hb0 := (Box.new w 44 TS).alloc (.cells zero32.toArray 25)
  have hb1 := Box.new (w.alloc (.cells TS 44)) 25 zero32.toArray
  have k0 := ((Kp.refl (fun _ => False) w).alloc (.cells TS 44)).alloc (.cells zero32.toArray 25)
  have hsz : ((w.alloc (.cells TS 44)).alloc (.cells zero32.toArray 25)).heap.size = w.heap.size + 2 := by simp
  rw [World.size_alloc] at hb1
  have hz : (hCells (part32 h0Z 0)) = zero32 := by rw [part32_start]; rfl
  unfold zero32 at hb0 hb1 k0 hz hsz
  generalize (w.alloc (.cells TS 44)).alloc (.cells [Value.int .u8 0, .int .u8 0, .int .u8 0, .int .u8 0, .int .u8 0, .int .u8 0, .int .u8 0, .int .u8 0, .int .u8 0, .int .u8 0, .int .u8 0, .int .u8 0, .int .u8 0, .int .u8 0, .int .u8 0, .int .u8 0, .int .u8 0, .int .u8 0, .int .u8 0, .int .u8 0, .int .u8 0, .int .u8 0, .int .u8 0, .int .u8 0, .int .u8 0, .int .u8 0, .int .u8 0, .int .u8 0, .int .u8 0, .int .u8 0, .int .u8 0, .int .u8 0].toArray 25) = W0 at *
  rw [← hz] at hb1
  rw [← HTS.out] at hb0
  have B0 := Lib.hid hb0
  have B1 := Lib.hid hb1
  have K0 := Lib.hid k0
  clear hb0 hb1 k0 hz
  refine (Hbl.out W0).mono ?_
  rintro e y ⟨v, rfl, hown, ky⟩
  obtain ⟨g, cap, rfl, hg0, hglt, hcap⟩ := own_formP hown (by have := hMb.out; omega)
  have Hown := Lib.hid hown
  have B0y := Lib.hid (B0.out.kp ky (fun h => h))
  have B1y := Lib.hid (B1.out.kp ky (fun h => h))
  have K0y := Lib.hid (K0.out.trans ky)
  have hcell : ∀ m i, m < M → i < 16 → y.cell? ⟨g, 16 * m + i, none⟩ = some (.int .u32 (wordZ (blkAt P m) i)) := fun m i hm hi => by
    rw [Hown.out.cellAt (16 * m + i) (by omega), word_blk P m i (by have := Hpl.out; omega) hi]
    simp [c32, wordsN, show 16 * m + i < 16 * M by omega]
  have Hcell := Lib.hid hcell
  clear hcell hown ky B0 B1 K0 Hown Hbl
  obtain ⟨Z64, hZ64⟩ : ∃ Z, (w64 (fun _ => 0)).toArray = Z := ⟨_, rfl⟩
  rw [hZ64] at Hz
  have HZ64 := Lib.hid hZ64
  clear hZ64
  obtain ⟨N, hN⟩ : ∃ N, 16 * M = N := ⟨_, rfl⟩
  rw [hN] at hcap ⊢
  have HN := Lib.hid hN
  have hNb : N < 4294967600 := by have := hMb.out; omega
  clear hN
  go_wp2_with fail
  go_loopw [6] (fun i wr => ∃ m a : Nat, m ≤ M ∧ a = 16 * m ∧ i = .int .i64 ((a : Nat) : Int) ∧ Box wr w.heap.size 44 (tcells (fun q => (foldB h0Z P m).list.getD q 0)).toArray ∧ Kp (fun q => q = w.heap.size) y wr) (fun i _ => N - (intOf i).toNat)
  case atStart => exact ⟨0, 0, by omega, rfl, rfl, B0y.out, Kp.refl _ _⟩
  case round =>
    obtain ⟨m, a, hm, ha, rfl, hbx, hkp⟩ := hrel
    have Hbx := Lib.hid hbx
    have Hkp := Lib.hid hkp
    have Ha := Lib.hid ha
    clear hbx hkp ha
    by_cases hlt : m < M
    · have haN : (a : Int) < (N : Int) := by have := Ha.out; have := HN.out; omega
      have hgw : Hid (g < wr.heap.size) := Lib.hid (Nat.lt_of_lt_of_le hglt Hkp.out.size)
      have hcb : Hid (∀ i, i < 16 → (wr.alloc (.cells Z64 42)).cell? ⟨g, a + i, none⟩ = some (.int .u32 (wordZ (blkAt P m) i))) := Lib.hid fun i hi => by
        rw [World.cell?_alloc_lt wr _ ⟨g, a + i, none⟩ hgw.out, Hkp.out.cell (p := ⟨g, a + i, none⟩) hglt (by simp only; omega), Ha.out]
        exact Hcell.out m i hlt hi
      have hblk : Hid (foldB h0Z P (m + 1) = (foldB h0Z P m).plus ((foldB h0Z P m).rnds kZ (wZ (wordZ (blkAt P m))) 64)) := Lib.hid (by rw [foldB_succ']; rfl)
      generalize wordZ (blkAt P m) = b at *
      generalize foldB h0Z P m = s at *
      have hz64 := Hz.out
      go_wp2_with fail
      have hbw := Box.new wr 42 Z64
      have hz0 := HZ64.out
      rw [← wpart_start b] at hz0
      rw [show Box (wr.alloc (.cells Z64 42)) wr.heap.size 42 Z64 = Box (wr.alloc (.cells Z64 42)) wr.heap.size 42 (w64 (wpart b 0)).toArray by rw [hz0]] at hbw
      clear hz0 hz64
      have hbt := Hbx.out.alloc (.cells Z64 42)
      have hkw := Hkp.out.alloc (.cells Z64 42)
      have hsz1 : (wr.alloc (.cells Z64 42)).heap.size = wr.heap.size + 1 := World.size_alloc _ _
      generalize wr.alloc (.cells Z64 42) = wa at *
      obtain ⟨G, hG⟩ : ∃ G, wr.heap.size = G := ⟨_, rfl⟩
      rw [hG] at hbw hsz1 hgw ⊢
      have hyG : y.heap.size ≤ G := by rw [← hG]; exact Hkp.out.size
      have hGg : g ≠ G := by have := hgw.out; omega
      have hGt : w.heap.size ≠ G := by have := hbt.lt; have := Hbx.out.lt; omega
      have Hbw := Lib.hid hbw
      have Hbt := Lib.hid hbt
      have Hkw := Lib.hid hkw
      clear hbw hbt hkw Hbx Hkp
      go_loopw [8] (fun i wq => ∃ k : Nat, k ≤ 64 ∧ i = .int .i64 ((k : Nat) : Int) ∧ Box wq G 42 (w64 (wpart b k)).toArray ∧ Kp (fun q => q = G) wa wq) (fun i _ => 64 - (intOf i).toNat)
      case atStart => exact ⟨0, by omega, rfl, Hbw.out, Kp.refl _ _⟩
      case round =>
        obtain ⟨k, hk, rfl, hbx, hkp⟩ := hrel
        have Hbx := Lib.hid hbx
        have Hkp := Lib.hid hkp
        clear hbx hkp
        by_cases hk64 : k < 64
        · have hkI : (k : Int) < 64 := by omega
          by_cases h16 : k < 16
          · have hkI16 : (k : Int) < 16 := by omega
            obtain ⟨e, he⟩ : ∃ e, a + k = e := ⟨_, rfl⟩
            have hw : IntKind.i64.wrap ((a : Int) + (k : Int)) = (e : Int) := by rw [IntWalk.i64_in _ (by omega)]; omega
            have heN : (e : Int) < (N : Int) := by have := Ha.out; have := HN.out; omega
            have hce : wr.cell? ⟨g, e, none⟩ = some (.int .u32 (b k)) := by
              have h1 := hcb.out k h16
              rw [he] at h1
              rw [Hkp.out.cell (p := ⟨g, e, none⟩) (by simp only; have := hgw.out; omega) hGg]
              exact h1
            have hck := w64_cell Hbx.out k (by omega)
            have hcf := Hbx.out.free k
            have Hput := Lib.hid (Hbx.out.put k (.int .u32 (b k)))
            rw [w64_set, show b k = wZ b k from (wZ_small b k h16).symm, wpart_step] at Hput
            rw [wZ_small b k h16] at Hput
            go_wp2_with fail
            go_roundw
            case rel => exact ⟨k + 1, by omega, by go_num, Hput.out, Hkp.out.setCell (p := ⟨G, k, none⟩) (.inr rfl) _⟩
            case measure => simp [intOf]; omega
          · have hkI16 : ¬ ((k : Int) < 16) := by omega
            obtain ⟨n, hn⟩ : ∃ n, k = n + 16 := ⟨k - 16, by omega⟩
            obtain ⟨r1, hr1⟩ : ∃ r, n + 1 = r := ⟨_, rfl⟩
            obtain ⟨r9, hr9⟩ : ∃ r, n + 9 = r := ⟨_, rfl⟩
            obtain ⟨r14, hr14⟩ : ∃ r, n + 14 = r := ⟨_, rfl⟩
            have hw15 : IntKind.i64.wrap ((k : Int) - 15) = (r1 : Int) := by rw [IntWalk.i64_in _ (by omega)]; omega
            have hw2 : IntKind.i64.wrap ((k : Int) - 2) = (r14 : Int) := by rw [IntWalk.i64_in _ (by omega)]; omega
            have hw7 : IntKind.i64.wrap ((k : Int) - 7) = (r9 : Int) := by rw [IntWalk.i64_in _ (by omega)]; omega
            have hw16 : IntKind.i64.wrap ((k : Int) - 16) = (n : Int) := by rw [IntWalk.i64_in _ (by omega)]; omega
            have l0 : (n : Int) < 64 := by omega
            have l1 : (r1 : Int) < 64 := by omega
            have l9 : (r9 : Int) < 64 := by omega
            have l14 : (r14 : Int) < 64 := by omega
            have hval := wZ_ref b n
            have dd : ∀ v, Box v G 42 (w64 (wpart b k)).toArray → v.cell? ⟨G, n, none⟩ = some (.int .u32 (wZ b n)) ∧ v.cell? ⟨G, r1, none⟩ = some (.int .u32 (wZ b r1)) ∧ v.cell? ⟨G, r9, none⟩ = some (.int .u32 (wZ b r9)) ∧ v.cell? ⟨G, r14, none⟩ = some (.int .u32 (wZ b r14)) := fun v hv => by
              have g0 := w64_cell hv n (by omega)
              have g1 := w64_cell hv r1 (by omega)
              have g9 := w64_cell hv r9 (by omega)
              have g14 := w64_cell hv r14 (by omega)
              rw [wpart_get b k _ (by omega)] at g0 g1 g9 g14
              exact ⟨g0, g1, g9, g14⟩
            have hfin : ∀ v, Box v G 42 (w64 (wpart b k)).toArray → Box (v.setCell ⟨G, k, none⟩ (.int .u32 ((wZ b n + s0Z (wZ b r1) + wZ b r9 + s1Z (wZ b r14)) % 4294967296))) G 42 (w64 (wpart b (k + 1))).toArray := fun v hv => by
              have h1 := hv.put k (.int .u32 (wZ b k))
              rw [w64_set, wpart_step] at h1
              rw [show wZ b k = (wZ b n + s0Z (wZ b r1) + wZ b r9 + s1Z (wZ b r14)) % 4294967296 by rw [hn, ← hr1, ← hr9, ← hr14]; exact hval] at h1
              exact h1
            have Dd := Lib.hid dd
            have Hfin := Lib.hid hfin
            clear hval dd hfin hr1 hr9 hr14 hn
            generalize wZ b n = x0 at *
            generalize wZ b r1 = x1 at *
            generalize wZ b r9 = x9 at *
            generalize wZ b r14 = x14 at *
            obtain ⟨d0, d1, d9, d14⟩ := Dd.out wr Hbx.out
            go_wp2_with fail
            go_quiet ((go_at_call 22; refine Calls.quiet_of (refrot_z _ _ _ (by decide))))
            clear d0 d1 d9 d14
            have Hbx1 := Lib.hid (Hbx.out.drewN nq)
            have Hkp1 := Lib.hid (Hkp.out.drewN nq)
            generalize wr.drewN nq = v1 at *
            obtain ⟨d0, d1, d9, d14⟩ := Dd.out v1 Hbx1.out
            go_wp2_with fail
            go_quiet ((go_at_call 22; refine Calls.quiet_of (refrot_z _ _ _ (by decide))))
            clear d0 d1 d9 d14
            have Hbx2 := Lib.hid (Hbx1.out.drewN nq)
            have Hkp2 := Lib.hid (Hkp1.out.drewN nq)
            generalize v1.drewN nq = v2 at *
            obtain ⟨d0, d1, d9, d14⟩ := Dd.out v2 Hbx2.out
            have hcf := Hbx2.out.free k
            have hck := w64_cell Hbx2.out k (by omega)
            have Hput := Lib.hid (Hfin.out v2 Hbx2.out)
            have Hkq : ∀ u, Hid (Kp (fun q => q = G) wa (v2.setCell ⟨G, k, none⟩ u)) := fun u => Lib.hid (Hkp2.out.setCell (p := ⟨G, k, none⟩) (.inr rfl) u)
            have HKq := Lib.hid Hkq
            clear Hkq
            go_wp2_with fail
            refine wp_region_still_tail 15 (by kernel_rfl) (by kernel_rfl) ?_
            simp only [List.take_succ_cons, List.take_zero, List.drop_succ_cons, List.drop_zero]
            change wpStill _ _ v2.drew _ _ _
            repeat still_step
            refine wpStill_nil ?_
            change wpList _ _ _ _ _ v2.drew
            go_wp2_with fail
            go_roundw
            case rel => exact ⟨k + 1, by omega, by go_num, Hput.out, (HKq.out _).out.drew⟩
            case measure => simp [intOf]; omega
        · have hkI : ¬ ((k : Int) < 64) := by omega
          have hbx := Hbx.out
          rw [show k = 64 by omega] at hbx
          clear Hbx
          have Hbx := Lib.hid hbx
          clear hbx hk hk64
          have Hbt1 := Lib.hid (Hbt.out.kp Hkp.out hGt)
          have Hkw1 : Hid (Kp (fun q => q = w.heap.size) y wr) := Lib.hid (Hkw.out.trans_new Hkp.out (fun q hq => .inl (by have := hgw.out; omega)))
          obtain ⟨c0, c1, c2, c3, c4, c5, c6, c7⟩ := tcells_8 Hbt1.out
          simp [St.list] at c0 c1 c2 c3 c4 c5 c6 c7
          go_wp2_with fail
          go_quiet (fail)
          clear c0 c1 c2 c3 c4 c5 c6 c7
          have Hbt2 := Lib.hid (Hbt1.out.drewN nq)
          have Hbx2 := Lib.hid (Hbx.out.drewN nq)
          have Hkw2 := Lib.hid (Hkw1.out.drewN nq)
          have hsz2 : G < (wr.drewN nq).heap.size := Hbx2.out.lt
          clear Hbt Hbt1 Hbx Hkp Hkw Hkw1 Hbw
          generalize wr.drewN nq = v0 at *
          go_wp2_with fail
          go_loopw [11, 12, 13, 14, 15, 16, 17, 18, 19] (fun a b' c d e f g h i wr => ∃ k : Nat, k ≤ 64 ∧ i = .int .i64 ((k : Nat) : Int) ∧ a = .int .u32 (s.rnds kZ (wZ b) k).a ∧ b' = .int .u32 (s.rnds kZ (wZ b) k).b ∧ c = .int .u32 (s.rnds kZ (wZ b) k).c ∧ d = .int .u32 (s.rnds kZ (wZ b) k).d ∧ e = .int .u32 (s.rnds kZ (wZ b) k).e ∧ f = .int .u32 (s.rnds kZ (wZ b) k).f ∧ g = .int .u32 (s.rnds kZ (wZ b) k).g ∧ h = .int .u32 (s.rnds kZ (wZ b) k).h ∧ Kp (fun _ => False) v0 wr) (fun _ _ _ _ _ _ _ _ i _ => 64 - (intOf i).toNat)
          case atStart => exact ⟨0, by omega, rfl, rfl, rfl, rfl, rfl, rfl, rfl, rfl, rfl, Kp.refl _ _⟩
          case round =>
            obtain ⟨k, hk, rfl, rfl, rfl, rfl, rfl, rfl, rfl, rfl, rfl, hkp⟩ := hrel
            have Hkp := Lib.hid hkp
            clear hkp
            have Hstep : Hid (s.rnds kZ (wZ b) (k + 1) = (s.rnds kZ (wZ b) k).rnd (kZ k) (wZ b k)) := Lib.hid rfl
            generalize ht : s.rnds kZ (wZ b) k = t at *
            have Ht := Lib.hid ht
            clear ht
            by_cases hlt : k < 64
            · have hkI : (k : Int) < 64 := by omega
              have d0 := tcells_k (Hbt2.out.kp Hkp.out (fun h => h)) k hlt
              have d1 := w64_cell (Hbx2.out.kp Hkp.out (fun h => h)) k hlt
              rw [wpart_get b 64 k hlt] at d1
              generalize kZ k = kk at *
              generalize wZ b k = ww at *
              go_wp2_with fail
              go_quiet ((go_at_call 22; refine Calls.quiet_of (refrot_z _ _ _ (by decide))))
              clear d0 d1
              have hkn := Lib.hid (Hkp.out.drewN nq)
              generalize wr.drewN nq = wp at *
              go_wp2_with fail
              refine (refrot_z _ _ _ (by decide)).mono ?_
              rintro e w' ⟨rfl, q1, rfl⟩
              go_wp2_with fail
              refine (refrot_z _ _ _ (by decide)).mono ?_
              rintro e w' ⟨rfl, q2, rfl⟩
              go_wp2_with fail
              refine (refrot_z _ _ _ (by decide)).mono ?_
              rintro e w' ⟨rfl, q3, rfl⟩
              go_wp2_with fail
              go_roundw
              case rel =>
                refine ⟨k + 1, by omega, by go_num, ?_, ?_, ?_, ?_, ?_, ?_, ?_, ?_, hkn.out.drewN _⟩
                all_goals (rw [Hstep.out]; rfl)
              case measure => simp [intOf]; omega
            · have hkI : ¬ ((k : Int) < 64) := by omega
              have ht64 := Ht.out
              rw [show k = 64 by omega] at ht64
              have Hbt3 := Lib.hid (Hbt2.out.kp Hkp.out (fun h => h))
              have Hkw3 : Hid (Kp (fun q => q = w.heap.size) y wr) := Lib.hid (Hkw2.out.trans (Hkp.out.mono (fun _ _ h => h.elim)))
              rw [ht64] at hblk
              clear Hstep Hkp Hbx2 Hbt2 Hkw2 Ht hk hlt ht64
              go_wp2_with fail
              have hbh := Box.new wr 31 t.cells.toArray
              have hbt4 := Hbt3.out.alloc (.cells t.cells.toArray 31)
              have hkw4 := Hkw3.out.alloc (.cells t.cells.toArray 31)
              have htH : w.heap.size < wr.heap.size := Hbt3.out.lt
              rw [St.cells_eq] at hbh hbt4 hkw4
              have htr : t.cells.toArray = #[.int .u32 t.a, .int .u32 t.b, .int .u32 t.c, .int .u32 t.d, .int .u32 t.e, .int .u32 t.f, .int .u32 t.g, .int .u32 t.h] := rfl
              generalize hwb : wr.alloc (.cells #[.int .u32 t.a, .int .u32 t.b, .int .u32 t.c, .int .u32 t.d, .int .u32 t.e, .int .u32 t.f, .int .u32 t.g, .int .u32 t.h] 31) = wb at *
              rw [← htr] at hbh
              have Hbh := Lib.hid hbh
              have Hkw4 := Lib.hid hkw4
              have hps : ∀ q, plusPart s t 0 q = s.list.getD q 0 := fun q => if_neg (by omega)
              have hbt5 : Box wb w.heap.size 44 (tcells (plusPart s t 0)).toArray := by rw [show plusPart s t 0 = fun q => s.list.getD q 0 from funext hps]; exact hbt4
              have Hbt5 := Lib.hid hbt5
              generalize wr.heap.size = H at *
              clear hbh hbt4 hbt5 hkw4 hwb htr hps Hbt3 Hkw3
              go_loopw [23] (fun i wq => ∃ k : Nat, k ≤ 8 ∧ i = .int .i64 ((k : Nat) : Int) ∧ Box wq w.heap.size 44 (tcells (plusPart s t k)).toArray ∧ Kp (fun q => q = w.heap.size) wb wq) (fun i _ => 8 - (intOf i).toNat)
              case atStart => exact ⟨0, by omega, rfl, Hbt5.out, Kp.refl _ _⟩
              case round =>
                obtain ⟨k, hk, rfl, hbx, hkp⟩ := hrel
                have Hbx := Lib.hid hbx
                have Hkp := Lib.hid hkp
                clear hbx hkp
                by_cases hlt : k < 8
                · have hkI : (k : Int) < 8 := by omega
                  have d0 := tcells_h Hbx.out k hlt
                  have hb1 : Box wr H 31 t.cells.toArray := Hbh.out.kp Hkp.out (by omega)
                  have d1 := st_cell hb1 k hlt
                  have hcf := Hbx.out.free (64 + k)
                  have hst := plusPart_step s t k
                  have hput := fun v => Hbx.out.put (64 + k) (.int .u32 v)
                  simp only [tcells_set] at hput
                  have Hput := Lib.hid (hput (addZ (plusPart s t k k) (t.list.getD k 0)))
                  rw [hst] at Hput
                  have Hkq := Lib.hid (fun u => Hkp.out.setCell (p := ⟨w.heap.size, 64 + k, none⟩) (.inr rfl) u)
                  clear hput hst hb1
                  unfold addZ at Hput
                  generalize plusPart s t k k = x0 at *
                  generalize t.list.getD k 0 = x1 at *
                  go_wp2_with fail
                  refine wp_region_still_tail 11 (by kernel_rfl) (by kernel_rfl) ?_
                  simp only [List.take_succ_cons, List.take_zero, List.drop_succ_cons, List.drop_zero]
                  change wpStill _ _ wr.drew _ _ _
                  repeat still_step
                  refine wpStill_nil ?_
                  change wpList _ _ _ _ _ wr.drew
                  go_wp2_with fail
                  go_roundw
                  case rel => exact ⟨k + 1, by omega, by go_num, Hput.out, (Hkq.out _).drew⟩
                  case measure => simp [intOf]; omega
                · have hkI : ¬ ((k : Int) < 8) := by omega
                  have hbx := Hbx.out
                  rw [show k = 8 by omega, tcells_congr (plusPart s t 8) (fun q => (foldB h0Z P (m + 1)).list.getD q 0) (fun q hq => by
                    rw [hblk.out]
                    have h : ∀ q : Fin 8, plusPart s t 8 q.val = (s.plus t).list.getD q.val 0 := by
                      intro q
                      match q with
                      | ⟨0, _⟩ | ⟨1, _⟩ | ⟨2, _⟩ | ⟨3, _⟩ | ⟨4, _⟩ | ⟨5, _⟩ | ⟨6, _⟩ | ⟨7, _⟩ => rfl
                    exact h ⟨q, hq⟩)] at hbx
                  have Hbx := Lib.hid hbx
                  have Hkw5 := Lib.hid (Hkw4.out.trans Hkp.out)
                  clear hbx
                  have HaN := Lib.hid haN
                  go_wp2_with fail
                  go_roundw
                  case rel => exact ⟨m + 1, a + 16, by omega, by have := Ha.out; omega, by go_num, Hbx.out, Hkw5.out⟩
                  case measure => have := HaN.out; simp [intOf]; omega
    · have haN : ¬ ((a : Int) < (N : Int)) := by have := Ha.out; have := HN.out; omega
      have hbx := Hbx.out
      rw [show m = M by omega, ← Hsha.out] at hbx
      obtain ⟨s, hs⟩ : ∃ s, shaZ l = s := ⟨_, rfl⟩
      rw [hs] at hbx
      have Hs := Lib.hid hs
      clear Hbx hs
      have B0 := Lib.hid hbx
      have B1 := Lib.hid (B1y.out.kp Hkp.out (by omega))
      have K0 : Hid (Kp (fun _ => False) w wr) := Lib.hid (K0y.out.trans_new Hkp.out (fun q hq => .inl (by omega)))
      clear hbx Hcell Hkp hm Ha hlt B0y B1y K0y
      go_wp2_with fail
      have hb2 := Box.new wr 25 zero32.toArray
      have hb0 := B0.out.alloc (.cells zero32.toArray 25)
      have hb1 := B1.out.alloc (.cells zero32.toArray 25)
      have k0 := K0.out.alloc (.cells zero32.toArray 25)
      have hz : (hCells (part32 s 0)) = zero32 := by rw [part32_start]; rfl
      rw [← hz] at hb2 hb0 hb1 k0
      have hzz : (hCells (part32 s 0)).toArray = [Value.int .u8 0, .int .u8 0, .int .u8 0, .int .u8 0, .int .u8 0, .int .u8 0, .int .u8 0, .int .u8 0, .int .u8 0, .int .u8 0, .int .u8 0, .int .u8 0, .int .u8 0, .int .u8 0, .int .u8 0, .int .u8 0, .int .u8 0, .int .u8 0, .int .u8 0, .int .u8 0, .int .u8 0, .int .u8 0, .int .u8 0, .int .u8 0, .int .u8 0, .int .u8 0, .int .u8 0, .int .u8 0, .int .u8 0, .int .u8 0, .int .u8 0, .int .u8 0].toArray := by rw [hz]; rfl
      rw [← hzz]
      generalize hW : wr.alloc (.cells (hCells (part32 s 0)).toArray 25) = W at *
      have hwb0 : w.heap.size < wr.heap.size := B0.out.lt
      have hwb1 : w.heap.size + 1 < wr.heap.size := B1.out.lt
      obtain ⟨O, hO⟩ : ∃ O, wr.heap.size = O := ⟨_, rfl⟩
      rw [hO] at hb2 hwb0 hwb1 ⊢
      clear B0 B1 K0 hz hzz hW
      have B0 := Lib.hid hb0
      have B1 := Lib.hid hb1
      have B2 := Lib.hid hb2
      have K0 := Lib.hid k0
      clear hb0 hb1 hb2 k0
      go_loopw [25] (fun i wq => ∃ k : Nat, k ≤ 32 ∧ i = .int .i64 ((k : Nat) : Int) ∧ Box wq O 25 (hCells (part32 s k)).toArray ∧ Kp (fun q => q = O) W wq) (fun i _ => 32 - (intOf i).toNat)
      case atStart => exact ⟨0, by omega, rfl, B2.out, Kp.refl _ _⟩
      case round =>
        obtain ⟨k, hk, rfl, hbx, hkp⟩ := hrel
        have Hbx := Lib.hid hbx
        have Hkp := Lib.hid hkp
        clear hbx hkp
        by_cases hlt : k < 32
        · have hk16 : (k : Int) < 32 := by omega
          have hb0 := B0.out.kp Hkp.out (by omega)
          have hcq := tcells_h hb0 (k / 4) (by omega)
          have hcf := Hbx.out.free k
          have hck := h_cell Hbx.out k hlt
          have hhz : hashZ s k = s.list.getD (k / 4) 0 / 2 ^ (24 - k % 4 * 8) % 256 := rfl
          have hst := part32_step s k
          have t1 : ((k : Int)).tmod 4 = ((k % 4 : Nat) : Int) := (Int.ofNat_tmod k 4).symm
          have t2 : ((k : Int)).tdiv 4 = ((k / 4 : Nat) : Int) := (Int.ofNat_tdiv k 4).symm
          have t3 : (24 : Int) - 8 * ((k % 4 : Nat) : Int) = ((24 - k % 4 * 8 : Nat) : Int) := by omega
          have t4 : (((k / 4 : Nat) : Int)) < 8 := by omega
          have t5 : 24 - k % 4 * 8 < 32 := by omega
          have t6 : (((k % 4 : Nat) : Int)) < 4 := by omega
          have Hst := Lib.hid hst
          have Hhz := Lib.hid hhz
          clear hst hhz hb0
          generalize k / 4 = q at *
          generalize 24 - k % 4 * 8 = n at *
          generalize k % 4 = r at *
          generalize s.list.getD q 0 = x at *
          go_wp2_with fail
          have hput := Hbx.out.put k (.int .u8 (hashZ s k))
          rw [h_set, Hst.out, Hhz.out] at hput
          go_roundw
          case rel => exact ⟨k + 1, by omega, by go_num, hput, Hkp.out.setCell (p := ⟨O, k, none⟩) (.inr rfl) _⟩
          case measure => simp [intOf]; omega
        · obtain rfl : k = 32 := by omega
          have hb16 := Hbx.out
          rw [part32_last] at hb16
          have hb1 : Hid (Box wr (w.heap.size + 1) 25 (hCells (part32 h0Z 0)).toArray) := Lib.hid (B1.out.kp Hkp.out (by omega))
          have hdone : Hid (Kp (fun _ => False) w (wr.setCells (w.heap.size + 1) 0 (hCells (hashZ s)).toArray.toList)) := Lib.hid (Kp.setCells _ _ _ (K0.out.trans_new Hkp.out (fun q hq => .inl (by omega))) (.inl (by omega)))
          have hbox : Hid (Box (wr.setCells (w.heap.size + 1) 0 (hCells (hashZ s)).toArray.toList) (w.heap.size + 1) 25 (hCells (hashZ s)).toArray) := Lib.hid (hb1.out.write (by simp [hCells]))
          have hb16 := Lib.hid hb16
          go_wp2_with (first
            | (refine wpList_load_mid rfl _ (.tmp 24) rfl O 0 rfl (hCells (hashZ s)) _ ?c1 Tryd.underlying25 rfl ?c2 ?_)
            | (refine wpList_store_mid rfl _ (.tmp 4) (.tmp 226) rfl (w.heap.size + 1) 0 (hCells (hashZ s)).toArray rfl rfl ?c3 ?c4 ?c5 ?_))
          case c1 => exact hb16.out.range'
          case c2 => exact Option.map_eq_some_iff.1 (show (Tryd.prog.info? 25).map (·.size) = some (hCells (hashZ s)).length by rw [hCells_length]; exact infoA32)
          case c3 => exact hb1.out.there
          case c4 => exact Option.map_eq_some_iff.1 (show (Tryd.prog.info? 25).map (·.size) = some (hCells (hashZ s)).length by rw [hCells_length]; exact infoA32)
          case c5 => exact hCells_one _
          refine bodyPost_ret (v := .agg (hCells (hashZ s)).toArray) ?_ rfl ⟨by rw [Hs.out], hdone.out⟩
          exact results_cell_row Hr.out _ _ (w.heap.size + 1) _ _ (0, 0) _ rfl hbox.out Tryd.underlying25 rfl (by kernel_rfl)
end Go.Proofs.YtbchfpcdmkldeaaDoor
