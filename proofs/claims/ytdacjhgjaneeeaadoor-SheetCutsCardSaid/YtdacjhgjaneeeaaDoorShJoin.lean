/- What sheet.Join answers: the text that is cut into just these sheets. Conditions: at most 2^20 sheets, their numbers of 64 bits. -/
import Derived.Test.YtdacjhgjaneeeaaDoorShTexts
namespace Go.Proofs.YtdacjhgjaneeeaaDoor
open Go.RowKit

def joinV (l : List Sh) : Value := match joinS l with
  | some t => .tuple #[.string ⟨t.toArray⟩, .bool true]
  | none => .tuple #[.string ⟨#[]⟩, .bool false]
theorem joinV_none {l : List Sh} (h : joinS l = none) : joinV l = .tuple #[.string ⟨#[]⟩, .bool false] := by rw [joinV, h]
theorem joinV_some {l : List Sh} {t : List UInt8} (h : joinS l = some t) : joinV l = .tuple #[.string ⟨t.toArray⟩, .bool true] := by rw [joinV, h]
theorem textsL_bad {l : List Sh} (h : (textsL l).2 = false) : joinS l = none := by
  rcases hj : joinS l with _ | t
  · rfl
  · have h1 := joinS_le hj
    unfold textsL at h
    rw [if_pos h1] at h
    have h2 : l = [] := by simpa using h
    subst h2
    cases hj
theorem textsL_good {l : List Sh} (h : (textsL l).2 = true) : (textsL l).1 = cat l ∧ l ≠ [] ∧ ∀ s ∈ l, s.t.length ≤ 497 := by
  unfold textsL at h ⊢
  split at h
  · next h1 => rw [if_pos h1]; exact ⟨rfl, by simpa using h, h1⟩
  · cases h

set_option maxRecDepth 100000 in
set_option maxHeartbeats 1000000 in
theorem join_any (A : Option Addr) (c n : Nat) (l : List Sh) (w : World) (hl : RdS w A l) (hn : l.length = n) (hm : n ≤ 1048576) (hq : ∀ s ∈ l, s.q < 18446744073709551616) :
    Calls Tryd.prog 15 #[.slice A n c] w fun e w' => e = .returned (joinV l) ∧ Kp (fun _ => False) w w' := by
  have HL := Lib.hid hl
  have HN := Lib.hid hn
  have HT := texts_any A c l w hl (by omega)
  rw [hn] at HT
  clear hl
  rcases hb : (textsL l).2 with _ | _
  · rw [joinV_none (textsL_bad hb)]
    rw [hb] at HT
    have HH := Lib.hid HT
    clear HT hb hn
    go_enter Tryd.func15, Tryd.ntmps15
    go_wp2_with fail
    refine HH.out.mono ?_
    rintro e w1 ⟨rfl, hk⟩
    have HK := Lib.hid hk
    clear hk
    go_wp2_with fail
    go_ret2
    exact ⟨rfl, HK.out⟩
  · obtain ⟨hc, hne, hle⟩ := textsL_good hb
    rw [hb, hc] at HT
    have HH := Lib.hid HT
    have hcl := cat_le l hle
    obtain ⟨s, r, rfl⟩ : ∃ s r, l = s :: r := by
      cases l with
      | nil => exact absurd rfl hne
      | cons s r => exact ⟨s, r, rfl⟩
    have hsq := hq s List.mem_cons_self
    obtain ⟨t, ht⟩ : ∃ t, cat (s :: r) = t := ⟨_, rfl⟩
    have hlen : t.length ≤ 4294967296 := by rw [← ht]; omega
    have hnd : need t.length ≤ 1048576 := by rw [← ht]; unfold need; omega
    rw [ht] at HH
    have HCat := Lib.hid ht
    obtain ⟨b, o, hA, c0, _, _⟩ := HL.out.three (k := 0) (by simp)
    subst hA
    have hn0 : 0 < n := by rw [← hn]; simp
    clear HT hb hc hne hle hcl ht hn hq
    have BH := World.block_lt_of_cell? w _ c0
    have C0 := Lib.hid c0
    clear c0
    go_enter Tryd.func15, Tryd.ntmps15
    go_wp2_with fail
    refine HH.out.mono ?_
    rintro e w1 ⟨rfl, hk⟩
    have K1 := Lib.hid hk
    have c1 := (hk.cell (p := ⟨b, o + 3 * 0, none⟩) BH (fun h => h)).trans C0.out
    simp at c1
    clear hk
    go_wp2_with fail
    refine (cut_any s.q t w1 hsq hlen).mono ?_
    rintro e w2 ⟨v, rfl, hown, hk⟩
    have K2 := Lib.hid (K1.out.trans hk)
    obtain ⟨A2, c2, rfl⟩ := own_shape3 hown
    have HR := Lib.hid (RdS.of_own hown)
    have HL2 := Lib.hid (HL.out.kp K2.out (fun _ _ e => e))
    clear hown hk c1
    have hs := same_sheets (some ⟨b, o, none⟩) A2 c c2 (s :: r) (cutL s.q t) w2 HL2.out HR.out (by rw [HN.out]; exact hm) (by rw [cutL_length]; exact hnd)
    rw [HN.out, cutL_length] at hs
    go_wp2_with fail
    refine hs.mono ?_
    clear hs
    rintro e w3 ⟨rfl, hk⟩
    have K3 := Lib.hid (K2.out.trans hk)
    clear hk
    by_cases heq : s :: r = cutL s.q t
    · have hd : decide (s :: r = cutL s.q t) = true := decide_eq_true heq
      have hj : joinS (s :: r) = some t := by
        unfold joinS
        simp only
        rw [HCat.out, if_pos heq.symm]
      have HJ := Lib.hid (joinV_some hj)
      rw [hd]
      clear heq hd hj
      go_wp2_with fail
      go_ret2
      rw [HJ.out]
      exact ⟨rfl, K3.out⟩
    · have hd : decide (s :: r = cutL s.q t) = false := decide_eq_false heq
      have hj : joinS (s :: r) = none := by
        unfold joinS
        simp only
        rw [HCat.out, if_neg (fun e => heq e.symm)]
      have HJ := Lib.hid (joinV_none hj)
      rw [hd]
      clear heq hd hj
      go_wp2_with fail
      go_ret2
      rw [HJ.out]
      exact ⟨rfl, K3.out⟩
end Go.Proofs.YtdacjhgjaneeeaaDoor
