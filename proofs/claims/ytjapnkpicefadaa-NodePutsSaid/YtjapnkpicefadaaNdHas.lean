/- What must be so of each of some, asked by function values: a node's values, keys, children. No condition. -/
import Derived.Test.YtjapnkpicefadaaNdMem
namespace Go.Proofs.Ytjapnkpicefadaa
open Go.RowKit

set_option maxHeartbeats 400000 in
theorem val1_any (g : Nat) (kw vw : Int) (s : ByteArray) (w : World) (hg : Box w g 30 #[.int .i64 kw, .int .i64 vw]) :
    Calls Try.prog 44 #[.string s, .pointer (some ⟨g, 0, none⟩)] w fun e w' => e = .returned (.bool ((s.size : Int) == vw)) ∧ w = w' := by
  have y1 := hg.cell 1
  simp at y1
  clear hg
  go_enter Try.func44, Try.ntmps44
  go_wp2
  go_ret
  exact ⟨rfl, rfl⟩
set_option maxHeartbeats 400000 in
theorem kid1_any (c : Int) (w : World) :
    Calls Try.prog 47 #[.int .i64 c] w fun e w' => e = .returned (.bool (kidB c)) ∧ w = w' := by
  by_cases h1 : 1 ≤ c
  · by_cases h2 : c < 1024
    · have e : kidB c = true := by simp [kidB, h1, h2]
      rw [e]
      clear e
      go_enter Try.func47, Try.ntmps47
      go_wp2
      go_ret
      exact ⟨rfl, rfl⟩
    · have e : kidB c = false := by simp [kidB, h2]
      rw [e]
      clear e
      go_enter Try.func47, Try.ntmps47
      go_wp2
      go_ret
      exact ⟨rfl, rfl⟩
  · have e : kidB c = false := by simp [kidB, h1]
    rw [e]
    clear e
    go_enter Try.func47, Try.ntmps47
    go_wp2
    go_ret
    exact ⟨rfl, rfl⟩
set_option maxHeartbeats 400000 in
theorem key1_any (ga gs : Nat) (kw vw : Int) (p s : ByteArray) (w : World) (ha : Box w ga 9 #[.string p]) (hg : Box w gs 30 #[.int .i64 kw, .int .i64 vw]) :
    Calls Try.prog 45 #[.string s, .pointer (some ⟨ga, 0, none⟩), .pointer (some ⟨gs, 0, none⟩)] w fun e w' => e = .returned (.bool (kyB kw p s)) ∧ w.setCell ⟨ga, 0, none⟩ (.string s) = w' := by
  have y0 := ha.cell 0
  have f0 := ha.free 0
  have z0 := (hg.far (p := ⟨ga, 0, none⟩) (ha.type_ne hg (by decide)).symm (.string s)).cell 0
  simp at y0 z0
  clear ha hg
  have hle : (Go.Op.bytesLess s.toList p.toList || (s.toList == p.toList)) = ble s p := rfl
  rcases hb : ble s p with _ | _
  · rw [hb] at hle
    have e : kyB kw p s = ((s.size : Int) == kw) := by simp [kyB, hb]
    rw [e]
    clear e hb
    go_enter Try.func45, Try.ntmps45
    go_wp2
    go_ret
    exact ⟨rfl, rfl⟩
  · rw [hb] at hle
    have e : kyB kw p s = false := by simp [kyB, hb]
    rw [e]
    clear e hb
    go_enter Try.func45, Try.ntmps45
    go_wp2
    go_ret
    exact ⟨rfl, rfl⟩

theorem all_no {α : Type} {p : α → Bool} {l : List α} {x : α} (hx : x ∈ l) (h : p x = false) : l.all p = false := by
  rcases hb : l.all p with _ | _
  · rfl
  · rw [List.all_eq_true] at hb
    rw [hb x hx] at h
    cases h
theorem all_take {α : Type} {p : α → Bool} {l : List α} {k : Nat} (hk : k < l.length) (h : (l.take k).all p = true) (hx : p l[k] = true) : (l.take (k + 1)).all p = true := by
  rw [take_snoc l k hk, List.all_append, h]
  simp [hx]

set_option maxHeartbeats 1000000 in
theorem every_vals (A : Option Addr) (c g : Nat) (kw vw : Int) (l : List ByteArray) (w : World) (hl : RdV w A (sts l)) (hlen : l.length ≤ maxLen) (hg : Box w g 30 #[.int .i64 kw, .int .i64 vw]) :
    Calls Try.prog 43 #[.slice A l.length c, .func (.func 44) #[] #[.pointer (some ⟨g, 0, none⟩)]] w fun e w' => e = .returned (.bool (valsB vw l)) ∧ w = w' := by
  have H := Lib.hid hl
  have G := Lib.hid hg
  unfold maxLen at hlen
  clear hl hg
  go_enter Try.func43, Try.ntmps43
  go_wp2_with fail
  go_loop [9] (fun s9 => ∃ k : Nat, k ≤ l.length ∧ s9 = .int .i64 k ∧ (l.take k).all (fun v => (v.size : Int) == vw) = true) (fun s9 => l.length - (Go.RowKit.intOf s9).toNat)
  case atStart => exact ⟨0, Nat.zero_le _, rfl, rfl⟩
  case round =>
    obtain ⟨k, hk, rfl, ht⟩ := hrel
    have HT := Lib.hid ht
    clear ht
    by_cases hlt : k < l.length
    · obtain ⟨x, hx⟩ : ∃ x, l[k]? = some x := ⟨_, List.getElem?_eq_getElem hlt⟩
      obtain ⟨b, o, rfl, y⟩ := H.out.at (sts_get hx)
      have HX := Lib.hid hx
      clear hx
      go_wp2_with fail
      refine (val1_any g kw vw x w G.out).mono ?_
      rintro e w1 ⟨rfl, rfl⟩
      rcases hb : ((x.size : Int) == vw) with _ | _
      · go_wp2_with fail
        go_ret
        refine ⟨?_, rfl⟩
        rw [show valsB vw l = false from all_no (List.mem_of_getElem? HX.out) hb]
        rfl
      · go_wp2_with fail
        go_round
        case rel =>
          refine ⟨k + 1, by omega, by go_num, all_take hlt HT.out ?_⟩
          have := HX.out
          rw [List.getElem?_eq_getElem hlt] at this
          cases this
          exact hb
        case measure => simp [Go.RowKit.intOf]; omega
    · go_wp2_with fail
      go_ret
      refine ⟨?_, rfl⟩
      have := HT.out
      rw [List.take_of_length_le (by omega)] at this
      rw [show valsB vw l = true from this]
      rfl

set_option maxHeartbeats 1000000 in
theorem every_kids (A : Option Addr) (c : Nat) (l : List Int) (w : World) (hl : RdV w A (its l)) (hlen : l.length ≤ maxLen) :
    Calls Try.prog 46 #[.slice A l.length c, .func (.func 47) #[] #[]] w fun e w' => e = .returned (.bool (kidsB l)) ∧ w = w' := by
  have H := Lib.hid hl
  unfold maxLen at hlen
  clear hl
  go_enter Try.func46, Try.ntmps46
  go_wp2_with fail
  go_loop [9] (fun s9 => ∃ k : Nat, k ≤ l.length ∧ s9 = .int .i64 k ∧ (l.take k).all kidB = true) (fun s9 => l.length - (Go.RowKit.intOf s9).toNat)
  case atStart => exact ⟨0, Nat.zero_le _, rfl, rfl⟩
  case round =>
    obtain ⟨k, hk, rfl, ht⟩ := hrel
    have HT := Lib.hid ht
    clear ht
    by_cases hlt : k < l.length
    · obtain ⟨x, hx⟩ : ∃ x, l[k]? = some x := ⟨_, List.getElem?_eq_getElem hlt⟩
      obtain ⟨b, o, rfl, y⟩ := H.out.at (its_get hx)
      have HX := Lib.hid hx
      clear hx
      go_wp2_with fail
      refine (kid1_any x w).mono ?_
      rintro e w1 ⟨rfl, rfl⟩
      rcases hb : kidB x with _ | _
      · go_wp2_with fail
        go_ret
        refine ⟨?_, rfl⟩
        rw [show kidsB l = false from all_no (List.mem_of_getElem? HX.out) hb]
        rfl
      · go_wp2_with fail
        go_round
        case rel =>
          refine ⟨k + 1, by omega, by go_num, all_take hlt HT.out ?_⟩
          have := HX.out
          rw [List.getElem?_eq_getElem hlt] at this
          cases this
          exact hb
        case measure => simp [Go.RowKit.intOf]; omega
    · go_wp2_with fail
      go_ret
      refine ⟨?_, rfl⟩
      have := HT.out
      rw [List.take_of_length_le (by omega)] at this
      rw [show kidsB l = true from this]
      rfl

/-- The key ahead of the j-th one. -/
def prevK (p : ByteArray) (l : List ByteArray) : Nat → ByteArray
  | 0 => p
  | j + 1 => l.getD j ⟨#[]⟩
theorem keysB_iff {kw : Int} : ∀ {p : ByteArray} {l : List ByteArray}, keysB kw p l = true ↔ ∀ j x, l[j]? = some x → kyB kw (prevK p l j) x = true
  | p, [] => by simp [keysB]
  | p, a :: r => by
    rw [keysB, Bool.and_eq_true, keysB_iff]
    constructor
    · rintro ⟨h1, h2⟩ j x hx
      rcases j with _ | j
      · cases hx
        exact h1
      · have := h2 j x (by simpa using hx)
        rcases j with _ | j
        · simpa [prevK] using this
        · simpa [prevK] using this
    · intro h
      refine ⟨h 0 a rfl, fun j x hx => ?_⟩
      have := h (j + 1) x (by simpa using hx)
      rcases j with _ | j
      · simpa [prevK] using this
      · simpa [prevK] using this

set_option maxHeartbeats 1000000 in
theorem every_keys (A : Option Addr) (c ga gs : Nat) (kw vw : Int) (l : List ByteArray) (w : World) (hl : RdV w A (sts l)) (hlen : l.length ≤ maxLen) (ha : Box w ga 9 #[.string ⟨#[]⟩]) (hg : Box w gs 30 #[.int .i64 kw, .int .i64 vw]) (hne : ∀ a, A = some a → l ≠ [] → a.block ≠ ga) :
    Calls Try.prog 43 #[.slice A l.length c, .func (.func 45) #[] #[.pointer (some ⟨ga, 0, none⟩), .pointer (some ⟨gs, 0, none⟩)]] w fun e w' => e = .returned (.bool (keysB kw ⟨#[]⟩ l)) ∧ Kp (fun k => k = ga) w w' := by
  have H := Lib.hid hl
  have G := Lib.hid hg
  have HA := Lib.hid ha
  have HN := Lib.hid hne
  have NE : Hid (ga ≠ gs) := Lib.hid (ha.type_ne hg (by decide))
  unfold maxLen at hlen
  clear hl hg ha hne
  go_enter Try.func43, Try.ntmps43
  go_wp2_with fail
  go_loopw [9] (fun s9 wr => ∃ k : Nat, k ≤ l.length ∧ s9 = .int .i64 k ∧ (∀ j x, j < k → l[j]? = some x → kyB kw (prevK ⟨#[]⟩ l j) x = true) ∧ Box wr ga 9 #[.string (prevK ⟨#[]⟩ l k)] ∧ Kp (fun k => k = ga) w wr) (fun s9 _ => l.length - (Go.RowKit.intOf s9).toNat)
  case atStart => exact ⟨0, Nat.zero_le _, rfl, fun j x hj => by omega, HA.out, Kp.refl _ _⟩
  case round =>
    obtain ⟨k, hk, rfl, ht, hb, hkp⟩ := hrel
    have HT := Lib.hid ht
    have HB := Lib.hid hb
    have HK := Lib.hid hkp
    clear ht hb hkp
    by_cases hlt : k < l.length
    · obtain ⟨x, hx⟩ : ∃ x, l[k]? = some x := ⟨_, List.getElem?_eq_getElem hlt⟩
      obtain ⟨b, o, rfl, y0⟩ := H.out.at (sts_get hx)
      have hbn : b ≠ ga := HN.out _ rfl (by rintro rfl; cases hx)
      have y : wr.cell? ⟨b, o + k, none⟩ = some (.string x) := (HK.out.cell (p := ⟨b, o + k, none⟩) (World.block_lt_of_cell? w ⟨b, o + k, none⟩ y0) hbn).trans y0
      have HX := Lib.hid hx
      clear hx y0 hbn
      go_wp2_with fail
      refine (key1_any ga gs kw vw _ x wr HB.out (G.out.kp HK.out (fun e => NE.out e.symm))).mono ?_
      rintro e w1 ⟨rfl, rfl⟩
      rcases hb : kyB kw (prevK ⟨#[]⟩ l k) x with _ | _
      · have HBB := Lib.hid hb
        clear hb
        go_wp2_with fail
        go_ret
        refine ⟨?_, HK.out.setCell (.inr rfl) _⟩
        rcases hq : keysB kw ⟨#[]⟩ l with _ | _
        · rfl
        · have := keysB_iff.1 hq k x HX.out
          rw [HBB.out] at this
          cases this
      · have HBB := Lib.hid hb
        clear hb
        have hB2 := HB.out.put 0 (.string x)
        simp at hB2
        have HB2 := Lib.hid hB2
        clear hB2
        go_wp2_with fail
        go_roundw
        case rel =>
          refine ⟨k + 1, by omega, by go_num, fun j z hj hz => ?_, ?_, HK.out.setCell (.inr rfl) _⟩
          · rcases Nat.lt_or_ge j k with h | h
            · exact HT.out j z h hz
            · obtain rfl : j = k := by omega
              rw [HX.out] at hz
              cases hz
              exact HBB.out
          · have : prevK ⟨#[]⟩ l (k + 1) = x := by simp [prevK, List.getD_eq_getElem?_getD, HX.out]
            rw [this]
            exact HB2.out
        case measure => simp [Go.RowKit.intOf]; omega
    · go_wp2_with fail
      go_ret
      refine ⟨?_, HK.out⟩
      rw [keysB_iff.2 fun j x hx => HT.out j x (by have := (List.getElem?_eq_some_iff.1 hx).1; omega) hx]
      rfl

set_option maxHeartbeats 1000000 in
theorem hasKeys_any (A : Option Addr) (c : Nat) (kw vw : Int) (l : List ByteArray) (w : World) (hl : RdV w A (sts l)) (hlen : l.length ≤ maxLen) :
    Calls Try.prog 34 #[.agg #[.int .i64 kw, .int .i64 vw], .slice A l.length c] w fun e w' => e = .returned (.bool (keysB kw ⟨#[]⟩ l)) ∧ Kp (fun _ => False) w w' := by
  obtain ⟨W, hW, b0, k0⟩ : ∃ W, W = w.alloc (.cells #[.int .i64 kw, .int .i64 vw] 30) ∧ Box W w.heap.size 30 #[.int .i64 kw, .int .i64 vw] ∧ Kp (fun _ => False) w W := ⟨_, rfl, Box.new w _ _, (Kp.refl _ w).alloc _⟩
  have HW := Lib.hid hW
  have B0 := Lib.hid b0
  have K0 := Lib.hid k0
  have H := Lib.hid hl
  have HL := Lib.hid hlen
  clear hW b0 k0 hl hlen
  go_enter Try.func34, Try.ntmps34
  go_upto_region 1 with fail
  rw [← HW.out]
  go_wp2_with fail
  have k1 : Kp (fun _ => False) W (W.alloc (.cells #[.string ⟨#[]⟩] 9)) := (Kp.refl _ W).alloc _
  refine (every_keys A c W.heap.size w.heap.size kw vw l _ (H.out.still (K0.out.trans k1)) HL.out (Box.new W _ _) (B0.out.kp k1 (fun h => h)) ?_).mono ?_
  · intro a ha hne
    have h1 := H.out
    rcases h1 with h1 | ⟨b, o, rfl, hc⟩
    · exact absurd (List.eq_nil_of_length_eq_zero (by rw [← sts_len, h1]; rfl)) hne
    · cases ha
      obtain ⟨x, r, rfl⟩ := List.exists_cons_of_ne_nil hne
      have := World.block_lt_of_cell? w ⟨b, o + 0, none⟩ (hc 0 (.string x) rfl)
      have h2 := K0.out.size
      simp only at this ⊢
      omega
  rintro e w1 ⟨rfl, k2⟩
  have K2 := Lib.hid k2
  clear k2
  go_wp2_with fail
  go_ret
  exact ⟨rfl, K0.out.trans (k1.trans_new K2.out (fun b hb => .inl (by omega)))⟩
end Go.Proofs.Ytjapnkpicefadaa
