/- The reference's primes: what Primes answers of 64; its tables. No condition. -/
import Derived.Test.YtbchfpcdmkldeaaDoorRefRoot
import Derived.Test.YtbchfpcdmkldeaaDoorRow
import Derived.Maps.AppendAt
namespace Go.Proofs.YtbchfpcdmkldeaaDoor
open Go.RowKit

/-- The primes among 2 to k + 1. -/
def pl : Nat → List Nat
  | 0 => []
  | k + 1 => if (pl k).all (fun p => (k + 2) % p != 0) then pl k ++ [k + 2] else pl k
theorem pl_mem (k : Nat) : ∀ p ∈ pl k, 2 ≤ p ∧ p ≤ k + 1 := by
  induction k with
  | zero => intro p h; simp [pl] at h
  | succ k ih =>
    intro p h
    rw [pl] at h
    split at h
    · rcases List.mem_append.1 h with h | h
      · have := ih p h; omega
      · have := List.mem_singleton.1 h; omega
    · have := ih p h; omega
theorem pl_mono (k m : Nat) : (pl k).length ≤ (pl (k + m)).length := by
  induction m with
  | zero => exact Nat.le_refl _
  | succ m ih =>
    refine Nat.le_trans ih ?_
    show _ ≤ (pl (k + m + 1)).length
    rw [pl]
    split
    · rw [List.length_append]; omega
    · exact Nat.le_refl _
def primesL : List Nat := [2, 3, 5, 7, 11, 13, 17, 19, 23, 29, 31, 37, 41, 43, 47, 53, 59, 61, 67, 71, 73, 79, 83, 89, 97, 101, 103, 107, 109, 113, 127, 131, 137, 139, 149, 151, 157, 163, 167, 173, 179, 181, 191, 193, 197, 199, 211, 223, 227, 229, 233, 239, 241, 251, 257, 263, 269, 271, 277, 281, 283, 293, 307, 311]
theorem pl_310 : pl 310 = primesL := by decide +kernel
theorem pl_309 : (pl 309).length = 63 := by decide +kernel
theorem pl_short (k : Nat) (h : k ≤ 309) : (pl k).length < 64 := by
  have := pl_mono k (309 - k)
  rw [show k + (309 - k) = 309 by omega, pl_309] at this
  omega
theorem own_formP {w : World} {base n : Nat} {e : TypeId} {v : Value} {xs : List Value} (h : w.ownsRow base e 1 v n xs) (hn : 0 < n) : ∃ g cap, v = .slice (some ⟨g, 0, none⟩) n cap ∧ base ≤ g ∧ g < w.heap.size ∧ n ≤ cap := by
  rcases h.2 with ⟨_, h0⟩ | ⟨g, cap, cur, hv, hb, hg, hnc, _⟩
  · omega
  · refine ⟨g, cap, hv, hb, ?_, hnc⟩
    rcases Nat.lt_or_ge g w.heap.size with hlt | hge
    · exact hlt
    · rw [Array.getElem?_eq_none hge] at hg; cases hg
theorem int_ne0 (n p : Nat) : (((n : Int) % (p : Int)) != 0) = (n % p != 0) := by
  rw [← Int.natCast_emod, Bool.eq_iff_iff]
  simp only [bne_iff_ne, ne_eq]
  omega
theorem one_c64 (n : Nat) : #[Value.int .u64 ((n : Nat) : Int)] = (c64 [n]).toArray := rfl
theorem c64_append (a b : List Nat) : c64 a ++ c64 b = c64 (a ++ b) := by simp [c64]
theorem infoU64 : (Tryd.prog.info? 49).map (fun i => (i.zero, i.size, i.bytes)) = some (some (.int .u64 0), 1, 8) := by kernel_rfl

set_option maxHeartbeats 4000000 in
set_option maxRecDepth 100000 in
theorem primes_any (w : World) :
    Calls Tryd.prog 23 #[.int .i64 64] w fun e w' => ∃ A c, e = .returned (.slice A 64 c) ∧ w'.ownsRow w.heap.size 49 1 (.slice A 64 c) 64 (c64 primesL) ∧ Kp (fun _ => False) w w' := by
  obtain ⟨i0, hi, hz0, hz1, hz2⟩ := info_parts infoU64
  go_enter Tryd.func23, Tryd.ntmps23
  go_wp2_with fail
  go_loopw [3, 4] (fun o n wr => ∃ (k : Nat) (ol : List Nat) (A : Option Addr) (c : Nat), k ≤ 310 ∧ n = .int .u64 ((k + 2 : Nat) : Int) ∧ ol = pl k ∧ o = .slice A ol.length c ∧ wr.ownsRow w.heap.size 49 1 (.slice A ol.length c) ol.length (c64 ol) ∧ Kp (fun _ => False) w wr) (fun _ n _ => 400 - (intOf n).toNat)
  case atStart => exact ⟨0, [], none, 0, by omega, rfl, rfl, rfl, World.ownsRow_nil _ _ _ _, Kp.refl _ _⟩
  case round =>
    obtain ⟨k, ol, A, c, hk, rfl, hol, rfl, hown, hkp⟩ := hrel
    have Hown := Lib.hid hown
    have Hkp := Lib.hid hkp
    clear hown hkp
    by_cases hlt : k < 310
    · have hl64 : ol.length < 64 := by rw [hol]; exact pl_short k (by omega)
      have hlI : (ol.length : Int) < 64 := by omega
      have hpm : Hid (∀ p ∈ ol, 2 ≤ p ∧ p ≤ k + 1) := Lib.hid (by rw [hol]; exact pl_mem k)
      have hnx : Hid (pl (k + 1) = if ol.all (fun p => (k + 2) % p != 0) then ol ++ [k + 2] else ol) := Lib.hid (by rw [pl, ← hol])
      clear hol
      obtain ⟨n, hn⟩ : ∃ n, k + 2 = n := ⟨_, rfl⟩
      rw [hn] at hnx ⊢
      have hn400 : n < 400 := by omega
      have Hn := Lib.hid hn
      clear hn
      go_wp2_with fail
      go_loop [5, 6] (fun b i => ∃ j : Nat, j ≤ ol.length ∧ i = .int .i64 j ∧ b = .bool ((ol.take j).all (fun p => n % p != 0))) (fun _ i => ol.length - (intOf i).toNat)
      case atStart => exact ⟨0, by omega, rfl, by simp⟩
      case round =>
        obtain ⟨j, hj, rfl, rfl⟩ := hrel
        by_cases hjl : j < ol.length
        · obtain ⟨g, cap, hv, _, _, _⟩ := own_formP Hown.out (by omega)
          injection hv with hA _ hc
          subst hA
          subst hc
          have hcell : wr.cell? ⟨g, j, none⟩ = some (.int .u64 ((ol[j] : Nat) : Int)) := by
            rw [Hown.out.cellAt j (by omega)]
            simp [c64, hjl]
          have hp2 := hpm.out ol[j] (List.getElem_mem hjl)
          have htk : Hid ((ol.take (j + 1)).all (fun p => n % p != 0) = ((ol.take j).all (fun p => n % p != 0) && (n % ol[j] != 0))) := Lib.hid (by rw [List.take_succ_eq_append_getElem hjl, List.all_append]; simp)
          have hjI : (j : Int) < ol.length := by omega
          generalize ol[j] = p at *
          generalize (ol.take j).all (fun p => n % p != 0) = b at *
          have hpI : ¬ ((p : Int) = 0) := by omega
          have hpI2 : (0 : Int) < p := by omega
          have hmod : ((n : Int)).tmod (p : Int) = ((n % p : Nat) : Int) := (Int.ofNat_tmod n p).symm
          cases b
          · go_wp2_with fail
            go_round
            case rel => exact ⟨j + 1, by omega, by go_num, by rw [htk.out]; rfl⟩
            case measure => simp [intOf]; omega
          · go_wp2_with fail
            go_round
            case rel => exact ⟨j + 1, by omega, by go_num, by rw [htk.out, Bool.true_and, ← int_ne0]⟩
            case measure => simp [intOf]; omega
        · have hjI : ¬ ((j : Int) < ol.length) := by omega
          rw [List.take_of_length_le (show ol.length ≤ j by omega)]
          generalize ol.all (fun p => n % p != 0) = b at *
          cases b
          · rw [if_neg (by decide)] at hnx
            go_wp2_with fail
            go_roundw
            case rel => exact ⟨k + 1, ol, A, c, by omega, by rw [← Hn.out]; rfl, hnx.out.symm, rfl, Hown.out, Hkp.out⟩
            case measure => simp [intOf]; omega
          · rw [if_pos rfl] at hnx
            have Howna := Lib.hid (Hown.out.alloc (.cells #[Value.int .u64 ((n : Nat) : Int)] 49))
            have hka := Lib.hid (Hkp.out.alloc (.cells #[Value.int .u64 ((n : Nat) : Int)] 49))
            go_wp2_with (first | (at_builtin; refine wpList_append_own_at _ rfl (.tmp 30) (.tmp 32) 52 rfl w.heap.size 49 i0 (.int .u64 0) 1 8 Tryd.underlying52 hi hz0 hz1 hz2 rfl (by decide) _ _ _ rfl Howna.out ⟨wr.heap.size, 0, none⟩ 1 1 [.int .u64 ((n : Nat) : Int)] rfl rfl (cell_one_new _ _ _) (by simp [Value.oneCell']) ?c1 ?c2 ?c3 ?_))
            case c1 => simp only [maxLen]; omega
            case c2 => omega
            case c3 => first | exact hka.out.size | (have := Hkp.out.size; omega)
            intro v4 w4 hown4 hg4 _ hat4
            have hk4 := Lib.hid (hka.out.grown hg4 (fun k h => .inl (Howna.out.lt k h).1))
            have hown4' : w4.ownsRow w.heap.size 49 1 v4 (ol.length + 1) (c64 (ol ++ [n])) := by rw [← c64_append]; exact hown4
            obtain ⟨A4, c4, rfl⟩ := own_shape' hown4'
            have Hown4 := Lib.hid hown4'
            clear hown4 hown4' hg4 hat4
            go_wp2_with fail
            go_roundw
            case rel => exact ⟨k + 1, ol ++ [n], A4, c4, by omega, by rw [← Hn.out]; rfl, hnx.out.symm, by simp, by simpa using Hown4.out, hk4.out⟩
            case measure => simp [intOf]; omega
    · obtain rfl : k = 310 := by omega
      rw [pl_310] at hol
      have hl64 : ol.length = 64 := by rw [hol]; rfl
      have Hol := Lib.hid hol
      rw [hl64] at Hown ⊢
      clear hol
      go_wp2_with fail
      go_ret
      exact ⟨A, c, rfl, by rw [← Hol.out]; exact Hown.out, Hkp.out⟩
end Go.Proofs.YtbchfpcdmkldeaaDoor
