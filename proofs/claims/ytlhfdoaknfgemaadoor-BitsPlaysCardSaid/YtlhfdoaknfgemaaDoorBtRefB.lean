/- The document's own map: what Find, Bytes, Take answer. Condition: 1 to 1024 pages. -/
import Derived.Test.YtlhfdoaknfgemaaDoorBtRef
import Derived.Test.YtlhfdoaknfgemaaDoorBtEnd
import Derived.StillTailTactics
namespace Go.Proofs.YtlhfdoaknfgemaaDoor
open Go.RowKit

/-- A row, as a function. -/
def fnL (l : List Bool) : Nat → Bool := fun i => l.getD i false
theorem fnL_wf (l : List Bool) (h : l.length ≤ 1024) : Wf (fnL l) l.length := ⟨h, fun i hi => by
  unfold fnL; rw [List.getD_eq_getElem?_getD, List.getElem?_eq_none hi]; rfl⟩
theorem fnL_set (l : List Bool) (i : Int) (u : Bool) : setF (fnL l) l.length i u = fnL (setB l i u) := by
  unfold setF setB
  split
  · next h =>
    obtain ⟨h0, h1⟩ : 0 ≤ i ∧ i < l.length := by simpa [pgB] using h
    funext j
    unfold upd fnL
    rw [List.getD_eq_getElem?_getD, List.getD_eq_getElem?_getD, List.getElem?_set]
    by_cases hj : j = i.toNat
    · subst hj
      rw [if_pos rfl, if_pos rfl, if_pos (by omega)]; rfl
    · rw [if_neg hj, if_neg (fun e => hj e.symm)]
  · rfl
set_option maxHeartbeats 1000000 in
theorem rfind_any (g c k : Nat) (l : List Bool) (w : World) (hm : RdM w g l) (h2 : l.length ≤ 1024) (hk : Least (fnL l) l.length k) :
    Calls Tryd.prog 21 #[.slice (some ⟨g, 0, none⟩) l.length c] w fun e w' => e = .returned (.int .i64 (if k < l.length then (k : Int) else -1)) ∧ w = w' := by
  have HM := Lib.hid hm
  obtain ⟨z, hz⟩ : ∃ z : Int, (if k < l.length then (k : Int) else -1) = z := ⟨_, rfl⟩
  rw [hz]
  have Hz := Lib.hid hz
  obtain ⟨n, hn⟩ : ∃ n, l.length = n := ⟨_, rfl⟩
  have HN := Lib.hid hn
  rw [hn] at h2 hk ⊢
  have HK := Lib.hid hk
  have hle := hk.le
  clear hm hz hn hk
  go_enter Tryd.func21, Tryd.ntmps21
  go_wp2_with fail
  go_loop [3] (fun i => ∃ j : Nat, j ≤ k ∧ i = .int .i64 j) (fun i => n - (intOf i).toNat)
  case atStart => exact ⟨0, by omega, rfl⟩
  case round =>
    obtain ⟨j, hj, rfl⟩ := hrel
    by_cases hlt : j < n
    · have y := HM.out.cell j (by rw [HN.out]; exact hlt)
      rcases Nat.lt_or_eq_of_le hj with hjk | hjk
      · have hb := HK.out.below j hjk
        unfold fnL at hb
        rw [hb] at y
        clear hb
        go_wp2_with fail
        go_round
        case rel => exact ⟨j + 1, by omega, by go_num⟩
        case measure => simp [intOf]; omega
      · have hb := HK.out.at_ (by omega)
        unfold fnL at hb
        rw [← hjk] at hb
        rw [hb] at y
        have hzk : Hid ((j : Int) = z) := Lib.hid (by rw [← Hz.out, HN.out, if_pos (by omega), hjk])
        clear hb hjk
        go_wp2_with fail
        go_ret
        exact ⟨by rw [← hzk.out]; rfl, rfl⟩
    · have hzk : Hid (-1 = z) := Lib.hid (by rw [← Hz.out, HN.out, if_neg (by omega)])
      have hjn : j = n := by omega
      subst hjn
      go_wp2_with fail
      go_ret
      exact ⟨by rw [← hzk.out]; rfl, rfl⟩
/-- The first i pages alone. -/
def upF (f : Nat → Bool) (i : Nat) : Nat → Bool := fun j => decide (j < i) && f j
theorem upF_zero (f : Nat → Bool) : upF f 0 = nof := by funext j; simp [upF, nof]
theorem upF_off (f : Nat → Bool) (i : Nat) (h : f i = false) : upF f (i + 1) = upF f i := by
  funext j
  unfold upF
  by_cases hj : j = i
  · subst hj; simp [h]
  · have : (j < i + 1) ↔ (j < i) := by omega
    simp [this]
theorem upF_all (f : Nat → Bool) (n : Nat) (h : ∀ i, n ≤ i → f i = false) : upF f n = f := by
  funext j
  unfold upF
  by_cases hj : j < n
  · simp [hj]
  · rw [h j (by omega)]; simp
theorem upF_byte (f : Nat → Bool) (i : Nat) (h : f i = true) : byN (upF f (i + 1)) (i / 8) = byN (upF f i) (i / 8) + 2 ^ (i % 8) := by
  have hs : i % 8 < 8 := Nat.mod_lt _ (by decide)
  have hlow : byN (upF f i) (i / 8) < 2 ^ (i % 8) := by
    refine Nat.lt_pow_two_of_testBit _ fun j hj => ?_
    rw [byN_bit]
    unfold upF
    have : ¬ 8 * (i / 8) + j < i := by omega
    simp [this]
  have hj := nat_join (i % 8) (2 ^ (i % 8)) (byN (upF f i) (i / 8)) (Nat.mod_self _) hlow
  rw [Nat.add_comm (byN (upF f i) (i / 8)), ← hj]
  refine Nat.eq_of_testBit_eq fun j => ?_
  rw [Nat.testBit_or, byN_bit, byN_bit, Nat.testBit_two_pow]
  unfold upF
  by_cases h8 : j < 8
  · by_cases he : i % 8 = j
    · have e : 8 * (i / 8) + j = i := by omega
      simp [h8, he, e, h]
    · by_cases hlt : 8 * (i / 8) + j < i
      · have h2 : 8 * (i / 8) + j < i + 1 := by omega
        simp [h8, he, hlt, h2]
      · have h2 : ¬ 8 * (i / 8) + j < i + 1 := by omega
        simp [h8, he, hlt, h2]
  · have he : ¬ i % 8 = j := by omega
    simp [h8, he]
theorem upF_bother (f : Nat → Bool) (i k : Nat) (h : k ≠ i / 8) : byN (upF f (i + 1)) k = byN (upF f i) k := by
  refine Nat.eq_of_testBit_eq fun j => ?_
  rw [byN_bit, byN_bit]
  unfold upF
  by_cases h8 : j < 8
  · have : (8 * k + j < i + 1) ↔ (8 * k + j < i) := by omega
    simp [this]
  · simp [h8]
theorem pageL_set (f : Nat → Bool) (i : Nat) (h : f i = true) (hi : i < 4096) : (pageL (upF f i)).set (i / 8) (UInt8.ofNat (byN (upF f i) (i / 8) + 2 ^ (i % 8))) = pageL (upF f (i + 1)) := by
  refine List.ext_getElem? fun j => ?_
  rw [List.getElem?_set]
  by_cases hj : i / 8 = j
  · subst hj
    rw [if_pos rfl, if_pos (by rw [pageL_length]; omega), pageL_get _ _ (by omega), upF_byte f i h]
  · rw [if_neg hj]
    rcases Nat.lt_or_ge j 512 with h5 | h5
    · rw [pageL_get _ _ h5, pageL_get _ _ h5, upF_bother f i j (fun e => hj e.symm)]
    · rw [List.getElem?_eq_none (by rw [pageL_length]; exact h5), List.getElem?_eq_none (by rw [pageL_length]; exact h5)]
theorem pageL_nof : pageL nof = List.replicate 512 0 := by
  refine List.ext_getElem? fun j => ?_
  rcases Nat.lt_or_ge j 512 with h | h
  · rw [pageL_get _ _ h, List.getElem?_replicate_of_lt h, byN_off nof j (fun _ _ => rfl)]; rfl
  · rw [List.getElem?_eq_none (by rw [pageL_length]; exact h), List.getElem?_eq_none (by rw [List.length_replicate]; exact h)]
set_option maxRecDepth 100000 in
set_option maxHeartbeats 1000000 in
theorem rbytes_any (g c : Nat) (l : List Bool) (w : World) (hm : RdM w g l) (h2 : l.length ≤ 1024) :
    Calls Tryd.prog 13 #[.slice (some ⟨g, 0, none⟩) l.length c] w fun e w' => e = .returned (.string ⟨(pageL (fnL l)).toArray⟩) ∧ Kp (fun _ => False) w w' := by
  have hmk : (Instr.makeSlice 39 (.int .i64 512) (.int .i64 512)).run Tryd.prog w = .ok (.slice (some ⟨w.heap.size, 0, none⟩) 512 512) (w.alloc (.cells (bcs (List.replicate 512 0)).toArray 5)) := make_bytes 512 (by decide) w
  obtain ⟨f, hf⟩ : ∃ f, fnL l = f := ⟨_, rfl⟩
  rw [hf]
  have e0 : List.replicate 512 (0 : UInt8) = pageL (upF f 0) := by rw [upF_zero, pageL_nof]
  rw [e0] at hmk
  obtain ⟨W1, hW1, hb1, hm1, hk1⟩ : ∃ W1, W1 = w.alloc (.cells (bcs (pageL (upF f 0))).toArray 5) ∧ Box W1 w.heap.size 5 (bcs (pageL (upF f 0))).toArray ∧ RdM W1 g l ∧ Kp (fun _ => False) w W1 :=
    ⟨_, rfl, Box.new w _ _, hm.alloc _, (Kp.refl _ w).alloc _⟩
  rw [← hW1] at hmk
  have hgl : g < w.heap.size := hm.lt
  have hall := fnL_wf l h2
  rw [hf] at hall
  obtain ⟨n, hn⟩ : ∃ n, l.length = n := ⟨_, rfl⟩
  have HN := Lib.hid hn
  rw [hn] at h2 hall ⊢
  have B1 := Lib.hid hb1
  have M1 := Lib.hid hm1
  have K1 := Lib.hid hk1
  have HF := Lib.hid hf
  have HALL := Lib.hid (upF_all f n hall.off)
  have Hby := Lib.hid (byN_lt)
  clear hm hb1 hm1 hk1 hW1 hf hn hall e0
  go_enter Tryd.func13, Tryd.ntmps13
  go_wp2_with fail
  clear hmk
  go_loopw [4] (fun i wr => ∃ k : Nat, k ≤ n ∧ i = .int .i64 k ∧ Box wr w.heap.size 5 (bcs (pageL (upF f k))).toArray ∧ RdM wr g l ∧ Kp (fun _ => False) w wr)
    (fun i _ => n - (intOf i).toNat)
  case atStart => exact ⟨0, Nat.zero_le _, rfl, B1.out, M1.out, K1.out⟩
  case round =>
    obtain ⟨k, hk, rfl, hb, hm, hkw⟩ := hrel
    have HB := Lib.hid hb
    have HM := Lib.hid hm
    have HK := Lib.hid hkw
    by_cases hlt : k < n
    · have y := hm.cell k (by rw [HN.out]; exact hlt)
      have hfk : l.getD k false = f k := by rw [← HF.out]; rfl
      rw [hfk] at y
      rcases hfb : f k with _ | _
      · rw [hfb] at y
        have HO := Lib.hid (upF_off f k hfb)
        clear hb hm hkw hfk hfb
        go_wp2_with fail
        go_roundw
        case rel => exact ⟨k + 1, by omega, by go_num, by rw [HO.out]; exact HB.out, HM.out, HK.out⟩
        case measure => simp [intOf]; omega
      · rw [hfb] at y
        have hst := Lib.hid (pageL_set f k hfb (by omega))
        have hby := upF_byte f k hfb
        have hbl := Hby.out (upF f (k + 1)) (k / 8)
        rw [hby] at hbl
        have hc : wr.cell? ⟨w.heap.size, k / 8, none⟩ = some (.int .u8 ((byN (upF f k) (k / 8) : Nat) : Int)) := by
          rw [hb.cell]
          have h1 := pageL_get (upF f k) (k / 8) (by omega)
          have h3 := Hby.out (upF f k) (k / 8)
          rw [List.getElem?_toArray, bcs_get, h1, Option.map_some, UInt8.toNat_ofNat_of_lt' h3]
        have hfr := hb.free (k / 8)
        have hd1 : (k : Int) / 8 = ((k / 8 : Nat) : Int) := by omega
        have hd2 : (k : Int).tmod 8 = ((k % 8 : Nat) : Int) := by rw [Int.tmod_eq_emod_of_nonneg (by omega)]; omega
        have hd4 : (k : Int).tdiv 8 = ((k / 8 : Nat) : Int) := by rw [Int.tdiv_eq_ediv_of_nonneg (by omega)]; omega
        have hd3 : (k : Int) % 8 = ((k % 8 : Nat) : Int) := by omega
        have hq : k / 8 < 512 := by omega
        have hs : k % 8 < 8 := Nat.mod_lt _ (by decide)
        obtain ⟨q, hqe⟩ : ∃ q, k / 8 = q := ⟨_, rfl⟩
        obtain ⟨s, hse⟩ : ∃ s, k % 8 = s := ⟨_, rfl⟩
        obtain ⟨x, hxe⟩ : ∃ x, byN (upF f k) q = x := ⟨_, rfl⟩
        rw [hqe] at hc hfr hst hbl hd1 hd4 hq
        rw [hse] at hst hbl hd2 hd3 hs
        rw [hxe] at hc hst hbl
        have hqi : (q : Int) < 512 := by omega
        have hsi : (s : Int) < 8 := by omega
        have HBL := Lib.hid hbl
        have hqw : IntKind.i64.wrap (q : Int) = (q : Int) := IntWalk.i64_in _ (by omega)
        have hsw : IntKind.i64.wrap (s : Int) = (s : Int) := IntWalk.i64_in _ (by omega)
        clear hb hm hkw hfk hfb hby hqe hse hxe hbl
        go_wp2_with fail
        go_still_tail 13, (by kernel_rfl)
        change wpList _ _ _ _ _ wr.drew
        go_wp2_with fail
        have hv : ((x : Int) + 2 ^ s) % 256 = (((UInt8.ofNat (x + 2 ^ s)).toNat : Nat) : Int) := by
          rw [UInt8.toNat_ofNat_of_lt' HBL.out]
          have key : ∀ p : Nat, x + p < 256 → ((x : Int) + (p : Int)) % 256 = ((x + p : Nat) : Int) := fun p hp => by omega
          have e : (2 : Int) ^ s = ((2 ^ s : Nat) : Int) := by simp
          rw [e]
          exact key _ HBL.out
        rw [hv]
        go_roundw
        case rel =>
          refine ⟨k + 1, by omega, by go_num, ?_, ?_, ?_⟩
          · have := (HB.out.put q (.int .u8 ((UInt8.ofNat (x + 2 ^ s)).toNat : Nat))).drew
            rw [bcs_set', hst.out] at this
            exact this
          · exact (HM.out.far (p := ⟨w.heap.size, q, none⟩) (by show g ≠ w.heap.size; omega) _).kp (Kp.refl (fun _ => False) _).drew (fun h => h)
          · exact (HK.out.setCell (p := ⟨w.heap.size, q, none⟩) (.inl (Nat.le_refl _)) _).drew
        case measure => simp [intOf]; omega
    · obtain rfl : k = n := by omega
      rw [HALL.out] at HB
      have hrd : Rd wr (some ⟨w.heap.size, 0, none⟩) (pageL f) := .inr ⟨w.heap.size, 0, rfl, fun j u hj => by rw [HB.out.cell, Nat.zero_add]; simp [bcs_get, hj]⟩
      have ht := hrd.text 39 9 5 512 Tryd.underlying39 Tryd.underlying5 Tryd.underlying9
      rw [pageL_length] at ht
      clear hb hm hkw hrd
      go_wp2_with fail
      go_ret
      exact ⟨rfl, HK.out⟩
/-- The page of bytes, as the document takes it. -/
def bitsOf (l : List UInt8) (n : Nat) : List Bool := (List.range n).map (bitL l)
theorem bitsOf_length (l : List UInt8) (n : Nat) : (bitsOf l n).length = n := by simp [bitsOf]
theorem bitsOf_get (l : List UInt8) (n j : Nat) (hj : j < n) : (bitsOf l n)[j]? = some (bitL l j) := by
  rw [bitsOf, List.getElem?_map, List.getElem?_range hj]; rfl
theorem bitsOf_fn (l : List UInt8) (n : Nat) (h : ∀ i, n ≤ i → bitL l i = false) : fnL (bitsOf l n) = bitL l := by
  funext j
  unfold fnL
  rw [List.getD_eq_getElem?_getD]
  by_cases hj : j < n
  · rw [bitsOf_get _ _ _ hj]; rfl
  · rw [List.getElem?_eq_none (by rw [bitsOf_length]; omega), h j (by omega)]; rfl
end Go.Proofs.YtlhfdoaknfgemaaDoor
