/- Whether a chunk may be. No condition. -/
import Derived.Test.YtoonihhjdmkflaaChBld
import Derived.OpenShut
namespace Go.Proofs.Ytoonihhjdmkflaa
open Go.RowKit

set_option maxRecDepth 100000 in
set_option maxHeartbeats 1000000 in
theorem hasEntry_any (k : Kd) (w : World) (hk : k.Ok) :
    Calls Try.prog 42 #[.agg (kcs k).toArray] w fun e w' => e = .returned (.bool (entB k)) ∧ Kp (fun _ => False) w w' := by
  obtain ⟨W, hW, b0, k0⟩ : ∃ W, W = w.alloc (.cells (kcs k).toArray 46) ∧ Box W w.heap.size 46 (kcs k).toArray ∧ Kp (fun _ => False) w W := ⟨_, rfl, Box.new w _ _, (Kp.refl _ w).alloc _⟩
  have HW := Lib.hid hW
  have K0 := Lib.hid k0
  have HO := Lib.hid hk
  have RG := Lib.hid b0.range'
  obtain ⟨_, _, y3, y4, rh⟩ := kid_cells b0.range' hk
  rw [Nat.zero_add] at y3 y4 rh
  have RH := Lib.hid rh
  have HE := ent_kid k hk
  have HB := Lib.hid (built_kid k.hash hk.1 k.ht k.sz hk.2.1)
  obtain ⟨cs, hcs⟩ : ∃ cs, cs = (kcs ⟨⟨#[]⟩, false, k.hash, k.ht, k.sz⟩).toArray := ⟨_, rfl⟩
  rw [← hcs] at HB HE
  have HE := Lib.hid HE
  clear hW b0 k0 hk hcs rh
  go_enter Try.func42, Try.ntmps42
  go_upto_region 1 with fail
  rw [← HW.out]
  go_wp2_with (first | (refine wpList_load_mid rfl 46 (.tmp 1) rfl w.heap.size 0 rfl (kcs k) _ RG.out Try.underlying46 rfl (by rw [kcs_len HO.out]; kernel_rfl) ?_) | (refine wpList_load_mid rfl 43 (.tmp 4) rfl w.heap.size 2 rfl (bcs k.hash) _ RH.out Try.underlying43 rfl (by rw [bcs_length, HO.out.1]; kernel_rfl) ?_) | (refine wpList_build rfl 46 _ rfl cs HB.out ?_) | (refine wpList_cmp rfl .neq 46 _ (.tmp 3) (.tmp 10) rfl (kcs k).toArray cs (.bool (entB k)) rfl rfl (by kernel_rfl) HE.out ?_) | fail)
  go_ret
  exact ⟨rfl, K0.out⟩
/-- The first one of which it is so. -/
def idxB (l : List Kd) : Int := match l.findIdx? entB with | some i => (i : Int) | none => -1
theorem find_take : ∀ {l : List Kd} {k : Nat} {x : Kd}, (l.take k).any entB = false → l[k]? = some x → entB x = true → l.findIdx? entB = some k
  | [], _, _, _, h, _ => by cases h
  | a :: r, 0, x, _, h, hx => by cases h; simp [List.findIdx?_cons, hx]
  | a :: r, k + 1, x, h, hk, hx => by
    simp only [List.take_succ_cons, List.any_cons, Bool.or_eq_false_iff] at h
    rw [List.findIdx?_cons, h.1, find_take h.2 (by simpa using hk) hx]
    rfl
theorem find_none : ∀ {l : List Kd}, l.any entB = false → l.findIdx? entB = none
  | [], _ => rfl
  | a :: r, h => by
    simp only [List.any_cons, Bool.or_eq_false_iff] at h
    rw [List.findIdx?_cons, h.1, find_none h.2]
    rfl
theorem any_take_snoc {l : List Kd} {k : Nat} {x : Kd} (h : (l.take k).any entB = false) (hx : l[k]? = some x) (hf : entB x = false) : (l.take (k + 1)).any entB = false := by
  have hlt : k < l.length := (List.getElem?_eq_some_iff.1 hx).1
  rw [take_snoc _ _ hlt, List.any_append, h]
  rw [List.getElem?_eq_getElem hlt] at hx
  cases hx
  simp [hf]
set_option maxRecDepth 100000 in
set_option maxHeartbeats 2000000 in
theorem index_any (A : Option Addr) (n : Nat) (l : List Kd) (w : World) (h : KsR w A l) (ho : ∀ k ∈ l, k.Ok) (hl : l.length ≤ maxLen) :
    Calls Try.prog 56 #[.slice A l.length n, .func (Fn.func 42) #[] #[]] w fun e w' => e = .returned (.int .i64 (idxB l)) ∧ Kp (fun _ => False) w w' := by
  have H := Lib.hid h
  have HO := Lib.hid ho
  unfold maxLen at hl
  clear h ho
  go_enter Try.func56, Try.ntmps56
  go_wp2_with fail
  go_loopw [8] (fun s8 wr => ∃ k : Nat, k ≤ l.length ∧ s8 = .int .i64 k ∧ (l.take k).any entB = false ∧ Kp (fun _ => False) w wr) (fun s8 _ => l.length - (Go.RowKit.intOf s8).toNat)
  case atStart => exact ⟨0, Nat.zero_le _, rfl, rfl, Kp.refl _ _⟩
  case round =>
    obtain ⟨k, hk, rfl, hall, hkp⟩ := hrel
    have HALL := Lib.hid hall
    have KP := Lib.hid hkp
    clear hall hkp
    by_cases hlt : k < l.length
    · obtain ⟨x, hx⟩ : ∃ x, l[k]? = some x := ⟨_, List.getElem?_eq_getElem hlt⟩
      obtain ⟨b, o, hA, hrg⟩ := (H.out.still KP.out).at hx
      have XO := Lib.hid (HO.out x (List.mem_of_getElem? hx))
      obtain ⟨p, hp⟩ : ∃ p, o + k * 36 = p := ⟨_, rfl⟩
      rw [show o + 36 * k = p by omega] at hrg
      have RG := Lib.hid hrg
      have HX := Lib.hid hx
      clear hrg hx
      rw [hA]
      go_wp2_with (first | (refine wpList_load_mid rfl 46 (.tmp 14) rfl b p rfl (kcs x) _ RG.out Try.underlying46 rfl (by rw [kcs_len XO.out]; kernel_rfl) ?_) | fail)
      refine (hasEntry_any x _ XO.out).mono ?_
      rintro e w1 ⟨rfl, k1⟩
      have K1 := Lib.hid (KP.out.trans k1)
      clear k1
      rcases hb : entB x with _ | _
      · have HN := Lib.hid (any_take_snoc HALL.out HX.out hb)
        clear hb
        go_wp2_with fail
        go_roundw
        case rel => exact ⟨k + 1, by omega, by go_num, HN.out, K1.out⟩
        case measure => simp [Go.RowKit.intOf]; omega
      · have HI : Hid (idxB l = k) := Lib.hid (by unfold idxB; rw [find_take HALL.out HX.out hb])
        clear hb
        go_wp2_with fail
        go_ret
        rw [HI.out]
        exact ⟨rfl, K1.out⟩
    · have HI : Hid (idxB l = -1) := Lib.hid (by
        have := HALL.out
        rw [List.take_of_length_le (by omega)] at this
        unfold idxB
        rw [find_none this])
      go_wp2_with fail
      go_ret
      rw [HI.out]
      exact ⟨rfl, KP.out⟩
theorem idx_any (l : List Kd) : decide ((0 : Int) ≤ idxB l) = l.any entB := by
  rcases ha : l.any entB with _ | _
  · unfold idxB
    rw [find_none ha]
    rfl
  · unfold idxB
    cases hf : l.findIdx? entB with
    | none =>
      rw [List.findIdx?_eq_none_iff] at hf
      rw [List.any_eq_true] at ha
      obtain ⟨x, hx, he⟩ := ha
      rw [hf x hx] at he
      cases he
    | some i => simp
set_option maxHeartbeats 1000000 in
theorem contains_any (A : Option Addr) (n : Nat) (l : List Kd) (w : World) (h : KsR w A l) (ho : ∀ k ∈ l, k.Ok) (hl : l.length ≤ maxLen) :
    Calls Try.prog 41 #[.slice A l.length n, .func (Fn.func 42) #[] #[]] w fun e w' => e = .returned (.bool (l.any entB)) ∧ Kp (fun _ => False) w w' := by
  have H := Lib.hid h
  have HO := Lib.hid ho
  have HL := Lib.hid hl
  have hd := idx_any l
  obtain ⟨z, hz⟩ : ∃ z, z = idxB l := ⟨_, rfl⟩
  have hc := index_any A n l w h ho hl
  rw [← hz] at hd hc
  have HC := Lib.hid hc
  clear h ho hl hc hz
  go_enter Try.func41, Try.ntmps41
  go_wp2_with fail
  refine HC.out.mono ?_
  rintro e w1 ⟨rfl, k1⟩
  have K1 := Lib.hid k1
  clear k1
  go_wp2_with fail
  go_ret
  exact ⟨rfl, K1.out⟩
end Go.Proofs.Ytoonihhjdmkflaa
