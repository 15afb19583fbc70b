/- The document's own map: what Take answers. Condition: at most 2^20 bytes. -/
import Derived.Test.YtlhfdoaknfgemaaDoorBtRefB
namespace Go.Proofs.YtlhfdoaknfgemaaDoor
open Go.RowKit

theorem make_bools (n : Nat) (hn : n ≤ 1048576) (W : World) : (Instr.makeSlice 33 (.int .i64 n) (.int .i64 n)).run Tryd.prog W = .ok (.slice (some ⟨W.heap.size, 0, none⟩) n n) (W.alloc (.cells (bls (List.replicate n false)).toArray 4)) := by
  obtain ⟨i, h1, h2, h3, h4⟩ := info_parts0 infoBool
  have := make_row (P := Tryd.prog) 33 4 i (.bool false) Tryd.underlying33 h1 h2 h3 h4 rfl n hn W
  rw [this]
  simp [bls]
/-- The first k bits, in a row of n. -/
def rowK (l : List UInt8) (n k : Nat) : List Bool := (List.range n).map fun j => decide (j < k) && bitL l j
theorem rowK_length (l : List UInt8) (n k : Nat) : (rowK l n k).length = n := by simp [rowK]
theorem rowK_get (l : List UInt8) (n k j : Nat) (hj : j < n) : (rowK l n k)[j]? = some (decide (j < k) && bitL l j) := by
  rw [rowK, List.getElem?_map, List.getElem?_range hj]; rfl
theorem rowK_zero (l : List UInt8) (n : Nat) : rowK l n 0 = List.replicate n false := by
  refine List.ext_getElem? fun j => ?_
  rcases Nat.lt_or_ge j n with h | h
  · rw [rowK_get _ _ _ _ h, List.getElem?_replicate_of_lt h]; simp
  · rw [List.getElem?_eq_none (by rw [rowK_length]; exact h), List.getElem?_eq_none (by rw [List.length_replicate]; exact h)]
theorem rowK_off (l : List UInt8) (n k : Nat) (h : bitL l k = false) : rowK l n (k + 1) = rowK l n k := by
  unfold rowK
  refine List.map_congr_left fun j _ => ?_
  by_cases hj : j = k
  · subst hj; simp [h]
  · have : (j < k + 1) ↔ (j < k) := by omega
    simp [this]
theorem rowK_on (l : List UInt8) (n k : Nat) (h : bitL l k = true) : (rowK l n k).set k true = rowK l n (k + 1) := by
  refine List.ext_getElem? fun j => ?_
  rw [List.getElem?_set]
  by_cases hj : k = j
  · subst hj
    rw [if_pos rfl, rowK_length]
    by_cases hn : k < n
    · rw [if_pos hn, rowK_get _ _ _ _ hn]; simp [h]
    · rw [if_neg hn, List.getElem?_eq_none (by rw [rowK_length]; omega)]
  · rw [if_neg hj]
    rcases Nat.lt_or_ge j n with h5 | h5
    · rw [rowK_get _ _ _ _ h5, rowK_get _ _ _ _ h5]
      have : (j < k + 1) ↔ (j < k) := by omega
      simp [this]
    · rw [List.getElem?_eq_none (by rw [rowK_length]; exact h5), List.getElem?_eq_none (by rw [rowK_length]; exact h5)]
theorem rowK_end (l : List UInt8) (n : Nat) (hn : n ≤ 4096) : rowK l n 4096 = bitsOf l n := by
  unfold rowK bitsOf
  refine List.map_congr_left fun j hj => ?_
  have := List.mem_range.1 hj
  have h2 : j < 4096 := by omega
  simp [h2]
theorem tm0 (z : Nat) (h : ¬ z % 2 = 1) : ((z : Int).tmod 2 == 0) = true := by
  rw [Int.tmod_eq_emod_of_nonneg (by omega)]; simp; omega
theorem tm1 (z : Nat) (h : z % 2 = 1) : ((z : Int).tmod 2 == 0) = false := by
  rw [Int.tmod_eq_emod_of_nonneg (by omega)]; simp; omega
/-- What Take answers: there is a bit of no page, the first one at jb; or none (4096). -/
def TakeP (w : World) (l : List UInt8) (n jb : Nat) (e : Ending) (w' : World) : Prop :=
  (jb < 4096 → e = .returned (.tuple #[.slice none 0 0, .int .i64 3])) ∧ (jb = 4096 → ∃ g, e = .returned (.tuple #[.slice (some ⟨g, 0, none⟩) n n, .int .i64 0]) ∧ RdM w' g (bitsOf l n) ∧ w.heap.size ≤ g) ∧ Kp (fun _ => False) w w'
set_option maxHeartbeats 1000000 in
theorem rtake_arg (s : ByteArray) (i : Int) (w : World) (h : ¬ (1 ≤ i ∧ i ≤ 1024)) :
    Calls Tryd.prog 15 #[.string s, .int .i64 i] w fun e w' => e = .returned (.tuple #[.slice none 0 0, .int .i64 2]) ∧ w = w' := by
  by_cases h0 : i < 1
  · clear h
    go_enter Tryd.func15, Tryd.ntmps15
    go_wp2_with fail
    go_ret2
    exact ⟨rfl, rfl⟩
  · have h1 : ¬ i ≤ 1024 := fun e => h ⟨by omega, e⟩
    clear h
    go_enter Tryd.func15, Tryd.ntmps15
    go_wp2_with fail
    go_ret2
    exact ⟨rfl, rfl⟩
set_option maxHeartbeats 1000000 in
theorem rtake_short (s : ByteArray) (n : Nat) (w : World) (h1 : 1 ≤ n) (h2 : n ≤ 1024) (h : s.size ≠ 512) (_hm : s.size ≤ 1048576) :
    Calls Tryd.prog 15 #[.string s, .int .i64 n] w fun e w' => e = .returned (.tuple #[.slice none 0 0, .int .i64 3]) ∧ w = w' := by
  have hne : ((s.size : Int) != 512) = true := by simp; omega
  clear h
  go_enter Tryd.func15, Tryd.ntmps15
  go_wp2_with fail
  go_ret2
  exact ⟨rfl, rfl⟩
set_option maxRecDepth 100000 in
set_option maxHeartbeats 1000000 in
theorem rtake_page (s : ByteArray) (n jb : Nat) (w : World) (h1 : 1 ≤ n) (h2 : n ≤ 1024) (hs : s.size = 512) (hjb : jb ≤ 4096) (hlo : ∀ i, n ≤ i → i < jb → bitL s.data.toList i = false) (hhi : jb < 4096 → n ≤ jb ∧ bitL s.data.toList jb = true) :
    Calls Tryd.prog 15 #[.string s, .int .i64 n] w (TakeP w s.data.toList n jb) := by
  have hmk := make_bools n (by omega) w
  obtain ⟨l, hl⟩ : ∃ l, s.data.toList = l := ⟨_, rfl⟩
  rw [hl] at hlo hhi ⊢
  rw [← rowK_zero l n] at hmk
  obtain ⟨W1, hW1, hb1, hk1⟩ : ∃ W1, W1 = w.alloc (.cells (bls (rowK l n 0)).toArray 4) ∧ RdM W1 w.heap.size (rowK l n 0) ∧ Kp (fun _ => False) w W1 :=
    ⟨_, rfl, RdM.new w _, (Kp.refl _ w).alloc _⟩
  rw [← hW1] at hmk
  have B1 := Lib.hid hb1
  have K1 := Lib.hid hk1
  have Hlo := Lib.hid hlo
  have Hhi := Lib.hid hhi
  have hbit : ∀ k (hk : k / 8 < s.size), bitL l k = ((s[k / 8]'hk).toNat / 2 ^ (k % 8) % 2 == 1) := by
    intro k hk
    unfold bitL
    have e : l.getD (k / 8) 0 = s[k / 8]'hk := by
      rw [← hl, List.getD_eq_getElem?_getD, List.getElem?_eq_getElem (by simpa using hk)]; rfl
    rw [e, Nat.testBit_eq_decide_div_mod_eq]
    rfl
  have Hbit : Hid (∀ (k q f : Nat) (hq : q < s.size), k / 8 = q → k % 8 = f → bitL l k = ((s[q]'hq).toNat / 2 ^ f % 2 == 1)) := Lib.hid (by rintro k q f hq rfl rfl; exact hbit k hq)
  have hsi : ((s.size : Int) != 512) = false := by simp; omega
  have hn1 : decide ((n : Int) < 1) = false := by simp; omega
  have hn2 : decide (1024 < (n : Int)) = false := by simp; omega
  have Hs := Lib.hid hs
  clear hb1 hk1 hlo hhi hbit hl hW1 hs
  go_enter Tryd.func15, Tryd.ntmps15
  go_wp2_with fail
  clear hmk hsi
  go_loopw [7] (fun i wr => ∃ k : Nat, k ≤ jb ∧ i = .int .i64 k ∧ RdM wr w.heap.size (rowK l n k) ∧ Kp (fun _ => False) w wr)
    (fun i _ => 4096 - (intOf i).toNat)
  case atStart => exact ⟨0, Nat.zero_le _, rfl, B1.out, K1.out⟩
  case round =>
    obtain ⟨k, hk, rfl, hb, hkw⟩ := hrel
    have HB := Lib.hid hb
    have HK := Lib.hid hkw
    by_cases hlt : k < 4096
    · obtain ⟨q, hqe⟩ : ∃ q, k / 8 = q := ⟨_, rfl⟩
      obtain ⟨f, hfe⟩ : ∃ f, k % 8 = f := ⟨_, rfl⟩
      have hq : q < s.size := by have := Hs.out; omega
      have hbk := Hbit.out k q f hq hqe hfe
      have hd1 : (k : Int) / 8 = (q : Int) := by omega
      have hd3 : (k : Int) % 8 = (f : Int) := by omega
      have hs8 : f < 8 := by omega
      have HBK := Lib.hid hbk
      have hfi : (f : Int) < 8 := by omega
      clear hqe hfe hbk hb hkw
      rcases hbit : bitL l k with _ | _
      · have hz : ((((s[q]'hq).toNat : Int) / 2 ^ f).tmod 2 == 0) = true := by
          have h := HBK.out
          rw [hbit] at h
          have h2 : ¬ (s[q]'hq).toNat / 2 ^ f % 2 = 1 := by intro e; rw [e] at h; cases h
          have e : ((s[q]'hq).toNat : Int) / 2 ^ f = (((s[q]'hq).toNat / 2 ^ f : Nat) : Int) := by simp
          rw [e]; exact tm0 _ h2
        have hkj : k < jb := by
          rcases Nat.lt_or_eq_of_le hk with h | h
          · exact h
          · have := (Hhi.out (by omega)).2
            rw [← h, hbit] at this; cases this
        have HO := Lib.hid (rowK_off l n k hbit)
        clear hbit HBK
        go_wp2_with fail
        go_roundw
        case rel => exact ⟨k + 1, by omega, by go_num, by rw [HO.out]; exact HB.out, HK.out⟩
        case measure => simp [intOf]; omega
      · have hz : ((((s[q]'hq).toNat : Int) / 2 ^ f).tmod 2 == 0) = false := by
          have h := HBK.out
          rw [hbit] at h
          have h2 : (s[q]'hq).toNat / 2 ^ f % 2 = 1 := by simpa using h.symm
          have e : ((s[q]'hq).toNat : Int) / 2 ^ f = (((s[q]'hq).toNat / 2 ^ f : Nat) : Int) := by simp
          rw [e]; exact tm1 _ h2
        rcases Nat.lt_or_eq_of_le hk with hkj | hkj
        · have hkn : k < n := by
            rcases Nat.lt_or_ge k n with h | h
            · exact h
            · have := Hlo.out k h hkj
              rw [hbit] at this; cases this
          have HO := Lib.hid (rowK_on l n k hbit)
          have hc := HB.out.cell k (by rw [rowK_length]; exact hkn)
          have hf := HB.out.free k
          obtain ⟨u, hu⟩ : ∃ u, (rowK l n k).getD k false = u := ⟨_, rfl⟩
          rw [hu] at hc
          clear hbit HBK hu
          go_wp2_with fail
          go_roundw
          case rel => exact ⟨k + 1, by omega, by go_num, by rw [← HO.out]; exact HB.out.put k true, HK.out.setCell (p := ⟨w.heap.size, k, none⟩) (.inl (Nat.le_refl _)) _⟩
          case measure => simp [intOf]; omega
        · have hkn : ¬ k < n := by
            have := (Hhi.out (by omega)).1
            omega
          have hj4 := Lib.hid (show jb < 4096 by omega)
          clear hbit HBK hkj
          go_wp2_with fail
          go_ret2
          exact ⟨fun _ => rfl, fun h => by have := hj4.out; omega, HK.out⟩
    · have hj4 := Lib.hid (show jb = 4096 by omega)
      obtain rfl : k = 4096 := by omega
      rw [rowK_end l n (by omega)] at HB
      clear hb hkw
      go_wp2_with fail
      go_ret2
      exact ⟨fun h => by have := hj4.out; omega, fun _ => ⟨_, rfl, HB.out, Nat.le_refl _⟩, HK.out⟩
end Go.Proofs.YtlhfdoaknfgemaaDoor
