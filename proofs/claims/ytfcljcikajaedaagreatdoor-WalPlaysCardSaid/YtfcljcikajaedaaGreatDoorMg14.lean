/- may: which texts a log may have behind an act that was cut. No condition. -/
import Derived.Test.YtfcljcikajaedaaGreatDoorMg11
import Derived.Test.YtfcljcikajaedaaGreatDoorMg13
import Derived.Deep.QuietTactic
import Derived.BigQuiet
namespace Go.Proofs.YtfcljcikajaedaaGreatDoor
open Go.RowKit Go.Maps

/-- What a log's texts may be. -/
def MayU (u all : List (List UInt8)) (p : List UInt8) (dd : Int) : Prop := (dd = 1 ∧ u = []) ∨ u = all ∨ (dd = 0 ∧ u = all ++ [p])
set_option maxRecDepth 100000 in
set_option maxHeartbeats 4000000 in
theorem may_true {w : World} (A1 A2 : Option Addr) (c1 c2 : Nat) (u all : List (List UInt8)) (p : List UInt8) (dd : Int) (hu : RdR w 9 1 (.slice A1 u.length c1) u.length (strs u)) (ha : RdR w 9 1 (.slice A2 all.length c2) all.length (strs all)) (hul : u.length ≤ 1000000) (hal : all.length ≤ 1000000) (h : MayU u all p dd) :
    Calls Tryz.prog 18 #[.slice A1 u.length c1, .slice A2 all.length c2, .string ⟨p.toArray⟩, .int .u8 dd] w fun e w' => e = .returned (.bool true) ∧ Kp (fun _ => False) w w' := by
  have HU := Lib.hid hu
  have HA := Lib.hid ha
  clear hu ha
  by_cases h1 : dd = 1 ∧ u = []
  · obtain ⟨rfl, rfl⟩ := h1
    rw [show (([] : List (List UInt8)).length) = 0 from rfl]
    go_enter Tryz.func18, Tryz.ntmps18
    go_wp2_with fail
    go_ret
    exact ⟨rfl, Kp.refl _ _⟩
  have hHE : (∀ k, k < all.length → u.getD k [] = all.getD k []) ∧ all.length ≤ u.length := by
    rcases h with h | h | ⟨_, h⟩
    · exact absurd h h1
    · subst h; exact ⟨fun _ _ => rfl, Nat.le_refl _⟩
    · subst h; exact ⟨fun k hk => by simp [List.getD, List.getElem?_append_left hk], by simp⟩
  have HEQ := Lib.hid hHE.1
  have HLE := Lib.hid hHE.2
  clear hHE
  rcases h with h | h | h
  · exact absurd h h1
  · have hul2 : u.length = all.length := by rw [h]
    have hd2 : decide (u.length < all.length) = false := by simp; omega
    have hd3 : decide ((all.length : Int) + 1 < (u.length : Int)) = false := by simp; omega
    have hd4 : decide (all.length < u.length) = false := by simp; omega
    have HU2 := Lib.hid hul2
    clear hul2
    by_cases hd1 : dd = 1
    · subst hd1
      have hz : ((u.length : Int) == 0) = false := by
        rcases u with _ | ⟨x, r⟩
        · exact absurd ⟨rfl, rfl⟩ h1
        · simp; omega
      clear h1 h
      go_enter Tryz.func18, Tryz.ntmps18
      go_wp2_with fail
      go_loopw [9] (fun s9 wr => ∃ k : Nat, k ≤ all.length ∧ s9 = .int .i64 k ∧ Kp (fun _ => False) w wr) (fun s9 _ => all.length - (intOf s9).toNat)
      case atStart => exact ⟨0, Nat.zero_le _, rfl, Kp.refl _ _⟩
      case round =>
        obtain ⟨k, hk, rfl, hkw⟩ := hrel
        by_cases hlt : k < all.length
        · obtain ⟨bu, cu, hvu, _, hcu⟩ := HU.out.cell (by have := HLE.out; omega)
          obtain ⟨ba, ca, hva, _, hca⟩ := HA.out.cell (by omega)
          injection hvu with e1 _ e3
          injection hva with e2 _ e4
          subst e1; subst e2; subst e3; subst e4
          obtain ⟨t, ht⟩ : ∃ t, all.getD k [] = t := ⟨_, rfl⟩
          have xu := hcu k _ (strs_get u k (by have := HLE.out; omega))
          have xa := hca k _ (strs_get all k hlt)
          rw [HEQ.out k hlt, ht] at xu
          rw [ht] at xa
          have yu := (hkw.cell (p := ⟨bu, k, none⟩) (World.block_lt_of_cell? w ⟨bu, k, none⟩ xu) (fun e => e)).trans xu
          have ya := (hkw.cell (p := ⟨ba, k, none⟩) (World.block_lt_of_cell? w ⟨ba, k, none⟩ xa) (fun e => e)).trans xa
          have hlu : k < u.length := by have := HLE.out; omega
          have HK := Lib.hid hkw
          clear xu xa hcu hca ht hkw
          go_wp2_with fail
          go_quiet (fail)
          go_wp2_with fail
          go_roundw
          case rel => exact ⟨k + 1, by omega, by go_num, HK.out.drewN _⟩
          case measure => simp [intOf]; omega
        · have HK := Lib.hid hkw
          clear hkw
          go_wp2_with fail
          go_ret
          exact ⟨rfl, HK.out⟩
    · have hz : (dd == 1) = false := by simpa using hd1
      clear h1 h hd1
      go_enter Tryz.func18, Tryz.ntmps18
      go_wp2_with fail
      go_loopw [9] (fun s9 wr => ∃ k : Nat, k ≤ all.length ∧ s9 = .int .i64 k ∧ Kp (fun _ => False) w wr) (fun s9 _ => all.length - (intOf s9).toNat)
      case atStart => exact ⟨0, Nat.zero_le _, rfl, Kp.refl _ _⟩
      case round =>
        obtain ⟨k, hk, rfl, hkw⟩ := hrel
        by_cases hlt : k < all.length
        · obtain ⟨bu, cu, hvu, _, hcu⟩ := HU.out.cell (by have := HLE.out; omega)
          obtain ⟨ba, ca, hva, _, hca⟩ := HA.out.cell (by omega)
          injection hvu with e1 _ e3
          injection hva with e2 _ e4
          subst e1; subst e2; subst e3; subst e4
          obtain ⟨t, ht⟩ : ∃ t, all.getD k [] = t := ⟨_, rfl⟩
          have xu := hcu k _ (strs_get u k (by have := HLE.out; omega))
          have xa := hca k _ (strs_get all k hlt)
          rw [HEQ.out k hlt, ht] at xu
          rw [ht] at xa
          have yu := (hkw.cell (p := ⟨bu, k, none⟩) (World.block_lt_of_cell? w ⟨bu, k, none⟩ xu) (fun e => e)).trans xu
          have ya := (hkw.cell (p := ⟨ba, k, none⟩) (World.block_lt_of_cell? w ⟨ba, k, none⟩ xa) (fun e => e)).trans xa
          have hlu : k < u.length := by have := HLE.out; omega
          have HK := Lib.hid hkw
          clear xu xa hcu hca ht hkw
          go_wp2_with fail
          go_quiet (fail)
          go_wp2_with fail
          go_roundw
          case rel => exact ⟨k + 1, by omega, by go_num, HK.out.drewN _⟩
          case measure => simp [intOf]; omega
        · have HK := Lib.hid hkw
          clear hkw
          go_wp2_with fail
          go_ret
          exact ⟨rfl, HK.out⟩
  · obtain ⟨rfl, h⟩ := h
    have hul2 : u.length = all.length + 1 := by rw [h]; simp
    have hd2 : decide (u.length < all.length) = false := by simp; omega
    have hd3 : decide ((all.length : Int) + 1 < (u.length : Int)) = false := by simp; omega
    have hd4 : decide (all.length < u.length) = true := by simp; omega
    obtain ⟨bu, cu, hvu, _, hcu⟩ := HU.out.cell (by omega)
    injection hvu with e1 _ e3
    subst e1; subst e3
    have xu : w.cell? ⟨bu, all.length, none⟩ = some (.string ⟨p.toArray⟩) := by
      refine hcu all.length _ ?_
      rw [strs_get u all.length (by omega), h]
      simp [List.getD]
    have hlu : all.length < u.length := by omega
    have HU2 := Lib.hid hul2
    clear hul2 h1 h hcu
    go_enter Tryz.func18, Tryz.ntmps18
    go_wp2_with fail
    clear xu hlu
    go_loopw [9] (fun s9 wr => ∃ k : Nat, k ≤ all.length ∧ s9 = .int .i64 k ∧ Kp (fun _ => False) w wr) (fun s9 _ => all.length - (intOf s9).toNat)
    case atStart => exact ⟨0, Nat.zero_le _, rfl, Kp.refl _ _⟩
    case round =>
      obtain ⟨k, hk, rfl, hkw⟩ := hrel
      by_cases hlt : k < all.length
      · obtain ⟨bu, cu, hvu, _, hcu⟩ := HU.out.cell (by have := HLE.out; omega)
        obtain ⟨ba, ca, hva, _, hca⟩ := HA.out.cell (by omega)
        injection hvu with e1 _ e3
        injection hva with e2 _ e4
        cases e1; subst e2; subst e3; subst e4
        obtain ⟨t, ht⟩ : ∃ t, all.getD k [] = t := ⟨_, rfl⟩
        have xu := hcu k _ (strs_get u k (by have := HLE.out; omega))
        have xa := hca k _ (strs_get all k hlt)
        rw [HEQ.out k hlt, ht] at xu
        rw [ht] at xa
        have yu := (hkw.cell (p := ⟨bu, k, none⟩) (World.block_lt_of_cell? w ⟨bu, k, none⟩ xu) (fun e => e)).trans xu
        have ya := (hkw.cell (p := ⟨ba, k, none⟩) (World.block_lt_of_cell? w ⟨ba, k, none⟩ xa) (fun e => e)).trans xa
        have hlu : k < u.length := by have := HLE.out; omega
        have HK := Lib.hid hkw
        clear xu xa hcu hca ht hkw
        go_wp2_with fail
        go_quiet (fail)
        go_wp2_with fail
        go_roundw
        case rel => exact ⟨k + 1, by omega, by go_num, HK.out.drewN _⟩
        case measure => simp [intOf]; omega
      · have HK := Lib.hid hkw
        clear hkw
        go_wp2_with fail
        go_ret
        exact ⟨rfl, HK.out⟩
end Go.Proofs.YtfcljcikajaedaaGreatDoor
