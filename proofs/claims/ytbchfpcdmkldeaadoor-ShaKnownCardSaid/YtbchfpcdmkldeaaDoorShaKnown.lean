/- The law ShaKnown: whatever stands behind, it answers true, and nothing that was there is turned. Condition: the two tables read as the program's text lays them. -/
import Derived.Test.YtbchfpcdmkldeaaDoorShaWake
import Derived.Test.YtbchfpcdmkldeaaDoorShaRow
namespace Go.Proofs.YtbchfpcdmkldeaaDoor
open Go.RowKit

theorem own_cap {w : World} {base e n c k : Nat} {A : Option Addr} {xs : List Value} (h : w.ownsRow base e 1 (.slice A n c) n xs) (hk : k ≤ n) : k ≤ c := by
  rcases h.2 with ⟨h1, h0⟩ | ⟨g, cap, cur, hv, hb, hg, hnc, _⟩
  · injection h1 with _ _ hc
    omega
  · injection hv with _ _ hc
    omega

set_option maxHeartbeats 4000000 in
set_option maxRecDepth 100000 in
theorem known_walk (A : Option Addr) (l : List UInt8) (c : Nat) (w : World) (hl : l.length ≤ c) (hr : Rd w A l) (ht : Tbls w) :
    Calls Tryd.prog 4 #[.slice A l.length c] w fun e w' => e = .returned (.bool true) ∧ Kp (fun _ => False) w w' := by
  obtain ⟨i0, hi, hz0, hz1, hz2⟩ := info_parts info_byt
  have Hr := Lib.hid hr
  have Ht := Lib.hid ht
  clear hr ht
  by_cases h3 : 300 < l.length
  · go_enter Tryd.func4, Tryd.ntmps4
    go_wp2_with fail
    refine (wakes_true w Ht.out).mono ?_
    rintro e w' ⟨rfl, k⟩
    have K := Lib.hid k
    clear k
    go_wp2_with fail
    go_ret
    exact ⟨rfl, K.out⟩
  · go_enter Tryd.func4, Tryd.ntmps4
    go_wp2_with fail
    go_loopw [3, 4] (fun v i wr => ∃ (bl : List UInt8) (k : Nat) (A' : Option Addr) (c' : Nat), v = .slice A' bl.length c' ∧ i = .int .i64 k ∧ bl = List.replicate k 97 ∧ k ≤ 1000000 ∧ wr.ownsRow w.heap.size 5 1 (.slice A' bl.length c') bl.length (bcs bl) ∧ Kp (fun _ => False) w wr) (fun _ i _ => 1000000 - (intOf i).toNat)
    case atStart => exact ⟨[], 0, none, 0, rfl, rfl, rfl, by omega, World.ownsRow_nil _ _ _ _, Kp.refl _ _⟩
    case round =>
      obtain ⟨bl, k, A2, c2, rfl, rfl, hbl, hk, hown, hkp⟩ := hrel
      have hlen : bl.length = k := by rw [hbl, List.length_replicate]
      have Hbl := Lib.hid hbl
      have Hlen := Lib.hid hlen
      have Hown := Lib.hid hown
      have Hkp := Lib.hid hkp
      clear hbl hlen hown hkp
      by_cases hlt : k < 1000000
      · have hkI : (k : Int) < 1000000 := by omega
        have Hlt := Lib.hid hlt
        have Hk := Lib.hid hk
        clear hlt hk
        have e0 := one_cell 97
        have HrA := Lib.hid (rd_mark wr 5 [97] (0, 0) wr.heap.size rfl)
        rw [← e0] at HrA
        have Howna := Lib.hid (Hown.out.alloc (.cells #[Value.int .u8 (((97 : UInt8).toNat : Nat) : Int)] 5))
        have hka := Lib.hid (Hkp.out.alloc (.cells #[Value.int .u8 (((97 : UInt8).toNat : Nat) : Int)] 5))
        clear e0
        go_wp2_with (first | (at_builtin; refine wpList_putB _ w.heap.size ?c4 rfl (.tmp 16) (.tmp 17) 22 rfl 5 i0 Tryd.underlying22 hi hz0 hz1 hz2 _ rfl bl [97] Howna.out _ 1 1 rfl rfl HrA.out ?c5 ?_))
        case c4 => exact hka.out.size
        case c5 => rw [Hlen.out]; simp only [List.length_singleton]; omega
        intro v4 w4 hown4 hg4 hat4
        have hk4 := Lib.hid (hka.out.grown hg4 (fun k h => .inl (Howna.out.lt k h).1))
        obtain ⟨A4, c4, rfl⟩ := own_shape' hown4
        have Hown4 := Lib.hid hown4
        clear hown4 hg4 hat4
        go_wp2_with fail
        go_roundw
        case rel => exact ⟨bl ++ [97], k + 1, A4, c4, by simp, by go_num, by rw [Hbl.out, List.replicate_succ'], Hlt.out, by simpa using Hown4.out, hk4.out⟩
        case measure => have := Hlt.out; simp [intOf]; omega
      · have hkI : ¬ ((k : Int) < 1000000) := by omega
        have hk6 : Hid (k = 1000000) := Lib.hid (by omega)
        have hrow : Hid (bl = List.replicate 1000000 97) := Lib.hid (by rw [Hbl.out, hk6.out])
        have hbc : 1000000 ≤ c2 := by have := (own_form Hown.out (by rw [Hlen.out, hk6.out]; decide)); obtain ⟨g, cap, e, _, _, h⟩ := this; injection e with _ _ e; subst e; rw [Hlen.out, hk6.out] at h; exact h
        have hrd : Rd wr A2 bl := Rd.of_own Hown.out
        have Hrd := Lib.hid hrd
        have htx := hrd.text 22 9 5 c2 Tryd.underlying22 Tryd.underlying5 Tryd.underlying9
        have hN : 1000000 ≤ bl.length := by rw [Hlen.out, hk6.out]; exact Nat.le_refl _
        have Htw := Lib.hid (Ht.out.kp Hkp.out (fun h => h) (fun h => h))
        have HrB := Lib.hid (Hr.out.kp_new' Hkp.out (fun _ h => h.elim))
        have hww : hashL (shaZ (⟨bl.toArray⟩ : ByteArray).data.toList) = (⟨#[205, 199, 110, 92, 153, 20, 251, 146, 129, 161, 199, 226, 132, 215, 62, 103, 241, 128, 154, 72, 164, 151, 32, 14, 4, 109, 57, 204, 199, 17, 44, 208]⟩ : ByteArray).data.toList := by
          show hashL (shaZ bl.toArray.toList) = _
          rw [List.toList_toArray, hrow.out]
          exact row_known
        have hkn := known_true ⟨bl.toArray⟩ ⟨#[205, 199, 110, 92, 153, 20, 251, 146, 129, 161, 199, 226, 132, 215, 62, 103, 241, 128, 154, 72, 164, 151, 32, 14, 4, 109, 57, 204, 199, 17, 44, 208]⟩ wr (by show bl.toArray.size ≤ _; rw [List.size_toArray, Hlen.out, hk6.out]; decide) Htw.out hww
        have Hkn := Lib.hid hkn
        have HN := Lib.hid hN
        have Hbc := Lib.hid hbc
        clear hrd hkn hlt hk hN hbc hww
        generalize (⟨bl.toArray⟩ : ByteArray) = bs at *
        go_wp2_with fail
        refine Hkn.out.mono ?_
        rintro e w1 ⟨rfl, k1⟩
        have Htw1 := Lib.hid (Htw.out.kp k1 (fun h => h) (fun h => h))
        have K1 := Lib.hid k1
        clear k1 htx Hkn
        go_wp2_with fail
        refine (known_true ⟨#[97, 98, 99, 100, 98, 99, 100, 101, 99, 100, 101, 102, 100, 101, 102, 103, 101, 102, 103, 104, 102, 103, 104, 105, 103, 104, 105, 106, 104, 105, 106, 107, 105, 106, 107, 108, 106, 107, 108, 109, 107, 108, 109, 110, 108, 109, 110, 111, 109, 110, 111, 112, 110, 111, 112, 113]⟩ ⟨#[36, 141, 106, 97, 210, 6, 56, 184, 229, 192, 38, 147, 12, 62, 96, 57, 163, 60, 228, 89, 100, 255, 33, 103, 246, 236, 237, 212, 25, 219, 6, 193]⟩ w1 (by decide) Htw1.out long_hw).mono ?_
        rintro e w2 ⟨rfl, k2⟩
        have K2 := Lib.hid (K1.out.trans k2)
        clear k2 Htw1 K1
        go_wp2_with fail
        clear hkI
        obtain ⟨w0, rfl⟩ : ∃ w0, w0 = wr := ⟨wr, rfl⟩
        go_loopw [5] (fun i v => ∃ n : Nat, n ≤ 140 ∧ i = .int .i64 n ∧ Kp (fun _ => False) w0 v) (fun i _ => 140 - (intOf i).toNat)
        case atStart => exact ⟨0, by omega, rfl, K2.out⟩
        case round =>
          obtain ⟨n, hn, rfl, hkv⟩ := hrel
          have Hkv := Lib.hid hkv
          clear hkv K2
          by_cases hlt : n < 140
          · have hnI : (n : Int) < 140 := by omega
            have hnb : Hid (n ≤ bl.length) := Lib.hid (by have := HN.out; omega)
            have hnc : n ≤ c2 := by have := Hbc.out; omega
            have hncI : (n : Int) ≤ c2 := by omega
            have hr1 := (Hrd.out.kp_new' Hkv.out (fun _ h => h.elim)).take n
            have htk : (bl.take n).length = n := by rw [List.length_take, Nat.min_eq_left hnb.out]
            have hr2 := Lib.hid (HrB.out.kp_new' Hkv.out (fun _ h => h.elim))
            clear hnb
            generalize bl.take n = sk at *
            subst htk
            have Hr1 := Lib.hid hr1
            clear hr1
            go_wp2_with (first | (at_builtin; refine wpList_putB _ wr.heap.size ?c1 rfl (.const (.slice none 0 0)) (.tmp 31) 22 rfl 5 i0 Tryd.underlying22 hi hz0 hz1 hz2 (.slice none 0 0) rfl [] sk (World.ownsRow_nil _ _ _ _) A2 _ c2 rfl rfl Hr1.out ?c2 ?_))
            case c1 => exact Nat.le_refl _
            case c2 => simp only [List.length_nil, Nat.zero_add]; omega
            intro v5 w5 hown5 hg5 hat5
            have hk5 := Lib.hid ((Kp.refl (fun _ => False) wr).grown hg5 (fun k h => by cases h))
            have Hown5 : Hid (w5.ownsRow wr.heap.size 5 1 v5 sk.length (bcs sk)) := Lib.hid hown5
            have hr2' := Lib.hid (hr2.out.kp_new' hk5.out (fun _ h => h.elim))
            clear hown5 hg5 hat5
            go_wp2_with (first | (at_builtin; refine wpList_putB _ wr.heap.size ?c3 rfl (.tmp 32) (.tmp 33) 22 rfl 5 i0 Tryd.underlying22 hi hz0 hz1 hz2 _ rfl sk l Hown5.out A _ c rfl rfl hr2'.out ?c4 ?_))
            case c3 => exact hk5.out.size
            case c4 => omega
            intro v6 w6 hown6 hg6 hat6
            have hk6' := Lib.hid (hk5.out.grown hg6 (fun k h => .inl (Hown5.out.lt k h).1))
            have hown6' : w6.ownsRow wr.heap.size 5 1 v6 (sk.length + l.length) (bcs (sk ++ l)) := by simpa using hown6
            obtain ⟨A6, c6, rfl⟩ := own_shape' hown6'
            have hro := Rd.of_own (l := sk ++ l) hown6'
            have Hc6 : Hid (sk.length ≤ c6) := Lib.hid (own_cap hown6' (by omega))
            have Hro := Lib.hid hro
            clear hown6 hown6' hg6 hat6 hro
            go_wp2_with (first | (at_builtin; refine wpList_putB _ wr.heap.size ?c5 rfl (.const (.slice none 0 0)) (.tmp 35) 22 rfl 5 i0 Tryd.underlying22 hi hz0 hz1 hz2 (.slice none 0 0) rfl [] (sk ++ l) (World.ownsRow_nil _ _ _ _) A6 _ c6 rfl ?c7 Hro.out ?c6 ?_))
            case c5 => exact hk6'.out.size
            case c7 => simp
            case c6 => simp only [List.length_nil, Nat.zero_add, List.length_append]; omega
            intro v7 w7 hown7 hg7 hat7
            have hk7 := Lib.hid (hk6'.out.grown hg7 (fun k h => by cases h))
            have hown7' : w7.ownsRow wr.heap.size 5 1 v7 (sk.length + l.length) (bcs (sk ++ l)) := by simpa using hown7
            obtain ⟨A7, c7, rfl⟩ := own_shape' hown7'
            have Hr7 := Lib.hid (Rd.of_own (l := sk ++ l) hown7')
            have hro7 := Lib.hid (Hro.out.kp_new' ((Kp.refl (fun _ => False) w6).grown hg7 (fun k h => by cases h)) (fun _ h => h.elim))
            clear hown7 hown7' hg7 hat7
            have hc6 := Hc6.out
            have hc6I : (sk.length : Int) ≤ c6 := by omega
            go_wp2_with fail
            have Htd := Lib.hid (Htw.out.kp (Hkv.out.trans hk7.out) (fun h => h) (fun h => h))
            have hks : Hid (sk.length ≤ 4294967296) := Lib.hid (by omega)
            have Hr17 := Lib.hid (Hr1.out.kp_new' hk7.out (fun _ h => h.elim))
            have Hro7 : Hid (Rd w7 A6 sk) := Lib.hid (by have := hro7.out.take sk.length; simpa using this)
            have hsA := Lib.hid (fun v (hv : Kp (fun _ => False) w7 v) => sum_any A6 sk c6 v hc6 hks.out (Hro7.out.kp_new' hv (fun _ h => h.elim)) (Htd.out.kp hv (fun h => h) (fun h => h)))
            have hsB := Lib.hid (fun v (hv : Kp (fun _ => False) w7 v) => sum_any A2 sk c2 v hnc hks.out (Hr17.out.kp_new' hv (fun _ h => h.elim)) (Htd.out.kp hv (fun h => h) (fun h => h)))
            have hsC := Lib.hid (fun v (hv : Kp (fun _ => False) w7 v) => sum_any A6 sk sk.length v (Nat.le_refl _) hks.out (Hro7.out.kp_new' hv (fun _ h => h.elim)) (Htd.out.kp hv (fun h => h) (fun h => h)))
            have Hrr6 := Lib.hid hro7.out
            have heq : ∀ w, (Op.equalIn 10000 25 (.agg (hCells (hashZ (shaZ sk))).toArray) (.agg (hCells (hashZ (shaZ sk))).toArray)).run Tryd.prog w = .ok true w := fun w => by rw [hash_eqs]; simp
            have hNl : (sk ++ l).length = sk.length + l.length := List.length_append
            have Htx6 := Lib.hid (fun v (hv : Kp (fun _ => False) w7 v) => (Hrr6.out.kp_new' hv (fun _ h => h.elim)).text 22 9 5 c6 Tryd.underlying22 Tryd.underlying5 Tryd.underlying9)
            have Htx7 := Lib.hid (fun v (hv : Kp (fun _ => False) w7 v) => (Hr7.out.kp_new' hv (fun _ h => h.elim)).text 22 9 5 c7 Tryd.underlying22 Tryd.underlying5 Tryd.underlying9)
            rw [hNl] at Htx6 Htx7
            clear hNl
            generalize hCells (hashZ (shaZ sk)) = HC at *
            refine wp_region_quiet (C := fun v => Kp (fun _ => False) w7 v) (by kernel_rfl) (by kernel_rfl) ((Kp.refl _ w7).drew) ?_
            refine wpQuiet_step (fun K hK => ?_)
            go_simp
            refine ⟨_, fun v hv => rfl, hK _ ?_⟩
            clear hK K
            refine wpQuiet_step (fun K hK => ?_)
            go_simp
            refine ⟨_, fun v hv => rfl, hK _ ?_⟩
            clear hK K
            refine wpQuiet_step (fun K hK => ?_)
            go_simp
            refine ⟨_, fun v hv => rfl, hK _ ?_⟩
            clear hK K
            refine wpQuiet_step (fun K hK => ?_)
            go_simp
            refine ⟨_, fun v hv => (hsA.out v hv).mono (fun e w'' h => ⟨h.1, hv.trans h.2⟩), hK _ ?_⟩
            clear hK K
            refine wpQuiet_step (fun K hK => ?_)
            go_simp
            refine ⟨_, fun v hv => rfl, hK _ ?_⟩
            clear hK K
            refine wpQuiet_step (fun K hK => ?_)
            go_simp
            refine ⟨_, fun v hv => rfl, hK _ ?_⟩
            clear hK K
            refine wpQuiet_step (fun K hK => ?_)
            go_simp
            refine ⟨_, fun v hv => rfl, hK _ ?_⟩
            clear hK K
            refine wpQuiet_step (fun K hK => ?_)
            go_simp
            refine ⟨_, fun v hv => (hsB.out v hv).mono (fun e w'' h => ⟨h.1, hv.trans h.2⟩), hK _ ?_⟩
            clear hK K
            refine wpQuiet_step (fun K hK => ?_)
            go_simp
            refine ⟨_, fun v hv => rfl, hK _ ?_⟩
            clear hK K
            refine wpQuiet_step (fun K hK => ?_)
            go_simp
            refine ⟨_, fun v hv => rfl, hK _ ?_⟩
            clear hK K
            refine wpQuiet_step (fun K hK => ?_)
            go_simp
            refine ⟨_, fun v hv => rfl, hK _ ?_⟩
            clear hK K
            refine wpQuiet_step (fun K hK => ?_)
            go_simp
            refine ⟨_, fun v hv => rfl, hK _ ?_⟩
            clear hK K
            refine wpQuiet_step (fun K hK => ?_)
            go_simp
            refine ⟨_, fun v hv => rfl, hK _ ?_⟩
            clear hK K
            refine wpQuiet_step (fun K hK => ?_)
            go_simp
            refine ⟨_, fun v hv => rfl, hK _ ?_⟩
            clear hK K
            refine wpQuiet_step (fun K hK => ?_)
            go_simp
            refine ⟨_, fun v hv => (hsC.out v hv).mono (fun e w'' h => ⟨h.1, hv.trans h.2⟩), hK _ ?_⟩
            clear hK K
            refine wpQuiet_step (fun K hK => ?_)
            go_simp
            refine ⟨_, fun v hv => rfl, hK _ ?_⟩
            clear hK K
            refine wpQuiet_step (fun K hK => ?_)
            go_simp
            refine ⟨_, fun v hv => rfl, hK _ ?_⟩
            clear hK K
            refine wpQuiet_step (fun K hK => ?_)
            go_simp
            refine ⟨_, fun v hv => rfl, hK _ ?_⟩
            clear hK K
            refine wpQuiet_step (fun K hK => ?_)
            go_simp
            refine ⟨_, fun v hv => (hsB.out v hv).mono (fun e w'' h => ⟨h.1, hv.trans h.2⟩), hK _ ?_⟩
            clear hK K
            refine wpQuiet_step (fun K hK => ?_)
            go_simp
            refine ⟨_, fun v hv => rfl, hK _ ?_⟩
            clear hK K
            refine wpQuiet_step (fun K hK => ?_)
            go_simp
            refine ⟨_, fun v hv => rfl, hK _ ?_⟩
            clear hK K
            refine wpQuiet_step (fun K hK => ?_)
            go_simp
            refine ⟨_, fun v hv => rfl, hK _ ?_⟩
            clear hK K
            refine wpQuiet_step (fun K hK => ?_)
            go_simp
            refine ⟨_, fun v hv => rfl, hK _ ?_⟩
            clear hK K
            refine wpQuiet_step (fun K hK => ?_)
            go_simp
            refine ⟨.string ⟨(sk ++ l).toArray⟩, fun v hv => by rw [Htx6.out v hv]; exact ⟨rfl, rfl⟩, hK _ ?_⟩
            clear hK K
            refine wpQuiet_step (fun K hK => ?_)
            go_simp
            refine ⟨_, fun v hv => rfl, hK _ ?_⟩
            clear hK K
            refine wpQuiet_step (fun K hK => ?_)
            go_simp
            refine ⟨.string ⟨(sk ++ l).toArray⟩, fun v hv => by rw [Htx7.out v hv]; exact ⟨rfl, rfl⟩, hK _ ?_⟩
            clear hK K
            refine wpQuiet_step (fun K hK => ?_)
            go_simp
            refine ⟨_, fun v hv => rfl, hK _ ?_⟩
            clear hK K
            refine wpQuiet_step (fun K hK => ?_)
            go_simp
            refine ⟨_, fun v hv => rfl, hK _ ?_⟩
            clear hK K
            refine wpQuiet_nil ?_
            intro w8 hw8
            have Hk8 := Lib.hid ((Hkv.out.trans hk7.out).trans hw8)
            clear hw8 heq
            go_wp2_with fail
            go_roundw
            case rel => exact ⟨sk.length + 1, by omega, by go_num, Hk8.out⟩
            case measure => simp [intOf]; omega
          · have hnI : ¬ ((n : Int) < 140) := by omega
            have Htz := Lib.hid (Htw.out.kp Hkv.out (fun h => h) (fun h => h))
            go_wp2_with fail
            refine (wakes_true wr Htz.out).mono ?_
            rintro e w9 ⟨rfl, k9⟩
            have K9 := Lib.hid ((Hkp.out.trans Hkv.out).trans k9)
            clear k9
            go_wp2_with fail
            go_ret
            exact ⟨rfl, K9.out⟩
end Go.Proofs.YtbchfpcdmkldeaaDoor
