/- The law CrcTells: whatever the bytes, the place and the change, it answers true, and nothing that was there is turned. Condition: the table of half bytes reads as the program's text lays it. -/
import Derived.Test.YtjlijaiihnjibaaDoorCrcWake
import Derived.Test.YtjlijaiihnjibaaDoorApp
import Derived.OwnWalk
import Derived.StillTailTactics
import Derived.Laws.ShiftsVarLaws
namespace Go.Proofs.YtjlijaiihnjibaaDoor
open Go.RowKit

theorem Joins.ownsRow_form' {w : World} {base size n : Nat} {e : TypeId} {v : Value} {xs : List Value} (h : w.ownsRow base e size v n xs) (hn : 0 < n) : ∃ g cap, v = .slice (some ⟨g, 0, none⟩) n cap ∧ base ≤ g ∧ g < w.heap.size := by
  rcases h.2 with ⟨_, h0⟩ | ⟨g, cap, cur, hv, hb, hg, _⟩
  · omega
  · refine ⟨g, cap, hv, hb, ?_⟩
    rcases Nat.lt_or_ge g w.heap.size with hlt | hge
    · exact hlt
    · rw [Array.getElem?_eq_none hge] at hg; cases hg
theorem own_shape' {w : World} {e n : Nat} {v : Value} {xs : List Value} (h : w.ownsRow 0 e 1 v n xs) : ∃ A c, v = .slice A n c := by
  rcases h.2 with ⟨rfl, rfl⟩ | ⟨g, cap, _, rfl, _⟩
  · exact ⟨_, _, rfl⟩
  · exact ⟨_, _, rfl⟩
theorem Rd.kp_new' {S : Nat → Prop} {w w' : World} {A : Option Addr} {l : List UInt8} (h : Rd w A l) (hk : Kp S w w') (hs : ∀ k, S k → w.heap.size ≤ k) : Rd w' A l :=
  h.keep fun a i _ _ hc => by
    have hlt := World.block_lt_of_cell? w ⟨a.block, i, none⟩ hc
    exact hk.cell (p := ⟨a.block, i, none⟩) hlt (fun e => Nat.lt_irrefl _ (Nat.lt_of_lt_of_le hlt (hs _ e)))
theorem info_byt : (Tryd.prog.info? 5).map (fun i => (i.zero, i.size, i.bytes)) = some (some (.int .u8 0), 1, 1) := by kernel_rfl
/-- The lowest four bytes of a number, in the walk's spelling. -/
theorem le4_cells (v : Nat) (hv : v < 4294967296) : (bcs (le4 v)).toArray = #[Value.int .u8 ((v : Int) % 256), .int .u8 ((v : Int) / 256 % 256), .int .u8 ((v : Int) / 65536 % 256), .int .u8 ((v : Int) / 16777216)] := by
  simp only [le4, bcs, List.map_cons, List.map_nil, UInt8.toNat_ofNat']
  have h1 : (((v % 2 ^ 8 : Nat)) : Int) = (v : Int) % 256 := by omega
  have h2 : (((v / 256 % 2 ^ 8 : Nat)) : Int) = (v : Int) / 256 % 256 := by omega
  have h3 : (((v / 65536 % 2 ^ 8 : Nat)) : Int) = (v : Int) / 65536 % 256 := by omega
  have h4 : (((v / 16777216 % 2 ^ 8 : Nat)) : Int) = (v : Int) / 16777216 := by omega
  rw [h1, h2, h3, h4]

theorem store_byte (u : UInt8) (r : Nat) : bits .xor .u8 ((u.toNat : Nat) : Int) ((2 : Int) ^ r % 256) = (((u ^^^ UInt8.ofNat (2 ^ r)).toNat : Nat) : Int) := by
  have h := u8_xor_nat u.toNat (2 ^ r % 256) u.toNat_lt (Nat.mod_lt _ (by decide))
  rw [Int.natCast_emod, Int.natCast_pow] at h
  rw [UInt8.toNat_xor, UInt8.toNat_ofNat', ← h]
  rfl
theorem bcs_set (o : List UInt8) (j : Nat) (u : UInt8) : bcs (o.set j u) = (bcs o).set j (.int .u8 (u.toNat : Nat)) := by
  simp [bcs]
theorem xor_shift (x k T : Nat) : x * 2 ^ T ^^^ 2 ^ (k + T) = (x ^^^ 2 ^ k) * 2 ^ T := by
  have := Nat.shiftLeft_xor_distrib (a := x) (b := 2 ^ k) (i := T)
  simp only [Nat.shiftLeft_eq] at this
  rw [this, ← Nat.pow_add]
set_option maxHeartbeats 4000000 in
set_option maxRecDepth 100000 in
theorem tells_walk (A : Option Addr) (l : List UInt8) (c at_ ch : Nat) (w : World) (hl : l.length ≤ c) (hm : c ≤ maxLen) (hat : at_ < 65536) (hch : ch < 4294967296) (hr : Rd w A l) (ht : Tbl w) :
    Calls Tryd.prog 4 #[.slice A l.length c, .int .u16 at_, .int .u32 ch] w fun e w' => e = .returned (.bool true) ∧ Kp (fun _ => False) w w' := by
  obtain ⟨i0, hi, hz0, hz1, hz2⟩ := info_parts info_byt
  have Hr := Lib.hid hr
  have Ht := Lib.hid ht
  clear hr ht
  have Hm := Lib.hid hm
  unfold maxLen at hm
  by_cases h3 : 3000 < l.length
  · go_enter Tryd.func4, Tryd.ntmps4
    go_wp2_with fail
    refine (wakes_true w Ht.out).mono ?_
    rintro e w' ⟨rfl, k⟩
    have K := Lib.hid k
    clear k
    go_wp2_with fail
    go_ret
    exact ⟨rfl, K.out⟩
  · have kt := Hr.out.text 22 9 5 c Tryd.underlying22 Tryd.underlying5 Tryd.underlying9
    have hv := crcN_lt l
    have Hl4 := Lib.hid (le4_cells (crcN l) (crcN_lt l))
    have Hb := Lib.hid (crc_behind l)
    have Ha : Hid (crcN l = crcN l) := rfl
    go_enter Tryd.func4, Tryd.ntmps4
    go_wp2_with fail
    refine (sum_any A l c w hl Hm.out Hr.out Ht.out).mono ?_
    rintro e w' ⟨rfl, rfl⟩
    generalize hvv : crcN l = v at *
    have Hvv := Lib.hid hvv
    clear hvv
    go_wp2_with (first | (at_builtin; refine wpList_put _ rfl (.const (.slice none 0 0)) (.tmp 19) 22 rfl 5 i0 Tryd.underlying22 hi hz0 hz1 hz2 (.slice none 0 0) rfl [] l (World.ownsRow_nil _ _ _ _) A _ c rfl rfl Hr.out ?c1 ?_))
    case c1 => simp only [List.length_nil, Nat.zero_add]; omega
    intro v1 w1 hown1 hg1 hat1
    have hk1 : Kp (fun _ => False) w w1 := (Kp.refl _ w).grown hg1 (fun k h => by cases h)
    have Hown1 := Lib.hid hown1
    have Hk1 := Lib.hid hk1
    have Hat1 : Hid (∀ k, v1.ownBlock = some k → w.heap.size ≤ k) := by
      intro k hk
      rcases hat1 with e | e <;> rw [e] at hk <;> simp [Value.ownBlock] at hk
      omega
    clear hown1 hg1 hat1 hk1
    have HrA := Lib.hid (rd_mark w1 5 (le4 v) (0, 0) w1.heap.size rfl)
    rw [Hl4.out] at HrA
    go_wp2_with (first | (at_builtin; refine wpList_put _ rfl (.tmp 20) (.tmp 32) 22 rfl 5 i0 Tryd.underlying22 hi hz0 hz1 hz2 v1 rfl l (le4 v) (Hown1.out.alloc _) (some ⟨w1.heap.size, 0, none⟩) 4 4 rfl rfl HrA.out ?c2 ?_))
    case c2 => have e : (le4 v).length = 4 := rfl
               omega
    intro v2 w2 hown2 hg2 hat2
    have e4 : (l ++ le4 v).length = l.length + 4 := by simp [le4]
    obtain ⟨A2, c2, rfl⟩ := own_shape' hown2
    have hr2 := Rd.of_own hown2
    have hk2 : Kp (fun _ => False) w w2 := (Hk1.out.alloc _).grown hg2 (fun k h => .inl (Hat1.out k h))
    have hs2 : Hid (Calls Tryd.prog 7 #[.slice A2 (l.length + (le4 v).length) c2] w2 fun e w' => e = .returned (.int .u32 1214729159) ∧ w2 = w') := by
      have := sum_any' A2 (l ++ le4 v) c2 w2 (by rw [e4]; simp only [maxLen]; omega) hr2 (Ht.out.kp hk2 (fun h => h))
      rw [Hb.out, List.length_append] at this
      exact this
    have Hk2 := Lib.hid hk2
    clear hown2 hg2 hat2 hr2 hk2 e4 HrA Hown1 Hat1 Hk1
    go_wp2_with fail
    with_reducible refine hs2.out.mono ?_
    rintro e w' ⟨rfl, rfl⟩
    have Hr2 : Hid (Rd w2 A l) := Lib.hid (Hr.out.kp_new' Hk2.out (fun _ h => h.elim))
    have Ht2 : Hid (Tbl w2) := Lib.hid (Ht.out.kp Hk2.out (fun h => h))
    clear hs2
    go_wp2_with (first | (at_builtin; refine wpList_put _ rfl (.const (.slice none 0 0)) (.tmp 37) 22 rfl 5 i0 Tryd.underlying22 hi hz0 hz1 hz2 (.slice none 0 0) rfl [] l (World.ownsRow_nil _ _ _ _) A _ c rfl rfl Hr2.out ?c3 ?_))
    case c3 => simp only [List.length_nil, Nat.zero_add]; omega
    intro v3 w3 hown3 hg3 hat3
    have hk3 : Kp (fun _ => False) w2 w3 := (Kp.refl _ w2).grown hg3 (fun k h => by cases h)
    have Hat3 : Hid (∀ k, v3.ownBlock = some k → w.heap.size ≤ k) := by
      intro k hk
      rcases hat3 with e | e <;> rw [e] at hk <;> simp [Value.ownBlock] at hk
      have := Hk2.out.size
      omega
    have Hr3 : Hid (Rd w3 A l) := Lib.hid (Hr2.out.kp_new' hk3 (fun _ h => h.elim))
    have Ht3 : Hid (Tbl w3) := Lib.hid (Ht2.out.kp hk3 (fun h => h))
    have Hk3 := Lib.hid (Hk2.out.trans hk3)
    obtain ⟨A3, c3, rfl⟩ := own_shape' hown3
    have hown3 : w3.ownsRow 0 5 1 _ l.length (bcs l) := hown3
    have Hown3 := Lib.hid hown3
    clear hown3 hg3 hat3 hk3 Hr2 Ht2 Hk2
    go_wp2_with fail
    obtain ⟨T, hT⟩ : ∃ T, T = at_ % (8 * l.length) := ⟨_, rfl⟩
    have HT := Lib.hid hT
    clear hT
    go_loopw [11] (fun i wr => ∃ (k : Nat) (o : List UInt8) (x : Nat), k ≤ 32 ∧ i = .int .i64 k ∧ o.length = l.length ∧ x < 2 ^ k ∧ leN o = leN l ^^^ x * 2 ^ T ∧ wr.ownsRow 0 5 1 (Value.slice A3 l.length c3) l.length (bcs o) ∧ Kp (fun _ => False) w wr) (fun i _ => 32 - (intOf i).toNat)
    case atStart => exact ⟨0, l, 0, by omega, rfl, rfl, by omega, by simp, Hown3.out, Hk3.out⟩
    case round =>
      obtain ⟨k, o, x, hk, rfl, hol, hx, hle, hrow, hkw⟩ := hrel
      have Hol := Lib.hid hol
      have Hx := Lib.hid hx
      have Hle := Lib.hid hle
      have Hrow := Lib.hid hrow
      have Hkw := Lib.hid hkw
      clear hol hx hle hrow hkw hown3 Hr3 Ht3 Hk3 Hown3
      by_cases hgo : k < 32 ∧ 0 < l.length
      · obtain ⟨hk32, hlen⟩ := hgo
        obtain ⟨g, cap, hv3, _, hglt⟩ := Joins.ownsRow_form' Hrow.out hlen
        injection hv3 with hA3 _ hc3
        subst hA3
        subst hc3
        have hTm : (at_ : Int) % (8 * (l.length : Int)) = (T : Int) := by rw [HT.out, Int.natCast_emod]; rfl
        have hTlt : T < 8 * l.length := by rw [HT.out]; exact Nat.mod_lt _ (by omega)
        have hgB := Hat3.out g rfl
        obtain ⟨K, hK⟩ : ∃ K, T + k = K := ⟨_, rfl⟩
        have hsum : (T : Int) + (k : Int) = (K : Int) := by omega
        have hKlt : K < 24032 := by omega
        have HK := Lib.hid hK
        clear hK
        by_cases hb : K < 8 * l.length
        · by_cases hbit : ch / 2 ^ k % 2 = 1
          · have hand : bits .and .u32 ((ch : Int) / 2 ^ k) 1 = 1 := by
              have := u32_and_nat (ch / 2 ^ k) 1 (Nat.lt_of_le_of_lt (Nat.div_le_self _ _) hch) (by decide)
              rw [Nat.and_one_is_mod, hbit, Int.natCast_ediv, Int.natCast_pow] at this
              exact this
            have hKo : K / 8 < o.length := by rw [Hol.out]; omega
            have hcell : wr.cell? ⟨g, K / 8, none⟩ = some (.int .u8 (o[K / 8]).toNat) := by
              rw [Hrow.out.cellAt _ (by omega), bcs_get, List.getElem?_eq_getElem hKo]; rfl
            have hfrz : wr.frozen? ⟨g, K / 8, none⟩ = false := Hrow.out.frozenAt _
            have hset := leN_set o (K / 8) (K % 8) hKo (Nat.mod_lt _ (by omega))
            have Hset := Lib.hid hset
            have HKo := Lib.hid hKo
            generalize hou : o[K / 8] = u at *
            have hu := u.toNat_lt
            have Hou := Lib.hid hou
            clear hou hset hKo
            go_wp2_with fail
            go_region
            rw [store_byte u (K % 8)]
            have hst := Hrow.out.stored (K / 8) (.int .u8 ((u ^^^ UInt8.ofNat (2 ^ (K % 8))).toNat : Nat))
            have hrow' : ((wr.setCell ⟨g, K / 8, none⟩ (.int .u8 ((u ^^^ UInt8.ofNat (2 ^ (K % 8))).toNat : Nat))).drew).ownsRow 0 5 1 (Value.slice (some ⟨g, 0, none⟩) l.length c3) l.length (bcs (o.set (K / 8) (u ^^^ UInt8.ofNat (2 ^ (K % 8))))) := by
              rw [bcs_set]
              exact hst.1
            have hk' : Kp (fun _ => False) w ((wr.setCell ⟨g, K / 8, none⟩ (.int .u8 ((u ^^^ UInt8.ofNat (2 ^ (K % 8))).toNat : Nat))).drew) := (Hkw.out.grown hst.2 (fun q hq => .inl (by cases hq; exact hgB))).drew
            have Hrow' := Lib.hid hrow'
            have Hk' := Lib.hid hk'
            generalize (wr.setCell ⟨g, K / 8, none⟩ (.int .u8 ((u ^^^ UInt8.ofNat (2 ^ (K % 8))).toNat : Nat))).drew = wq at *
            clear hst hrow' hk' hcell hfrz Hrow Hkw
            go_wp2_with fail
            go_roundw
            case rel =>
              refine ⟨k + 1, o.set (K / 8) (u ^^^ UInt8.ofNat (2 ^ (K % 8))), x ^^^ 2 ^ k, by omega, by go_num, by rw [List.length_set, Hol.out], Nat.xor_lt_two_pow (Nat.lt_trans Hx.out (Nat.pow_lt_pow_right (by omega) (by omega))) (Nat.pow_lt_pow_right (by omega) (by omega)), ?_, Hrow'.out, Hk'.out⟩
              rw [Hset.out, Hle.out, Nat.xor_assoc]
              congr 1
              rw [show 8 * (K / 8) + K % 8 = k + T by have := HK.out; omega]
              exact xor_shift x k T
            case measure => simp [intOf]; omega
          · have hand : bits .and .u32 ((ch : Int) / 2 ^ k) 1 = 0 := by
              have := u32_and_nat (ch / 2 ^ k) 1 (Nat.lt_of_le_of_lt (Nat.div_le_self _ _) hch) (by decide)
              have e0 : ch / 2 ^ k % 2 = 0 := by omega
              rw [Nat.and_one_is_mod, e0, Int.natCast_ediv, Int.natCast_pow] at this
              exact this
            go_wp2_with fail
            go_roundw
            case rel => exact ⟨k + 1, o, x, by omega, by go_num, Hol.out, Nat.lt_trans Hx.out (Nat.pow_lt_pow_right (by omega) (by omega)), Hle.out, Hrow.out, Hkw.out⟩
            case measure => simp [intOf]; omega
        · have hbi : decide ((K : Int) < 8 * (l.length : Int)) = false := by simp; omega
          go_wp2_with fail
          go_roundw
          case rel => exact ⟨k + 1, o, x, by omega, by go_num, Hol.out, Nat.lt_trans Hx.out (Nat.pow_lt_pow_right (by omega) (by omega)), Hle.out, Hrow.out, Hkw.out⟩
          case measure => simp [intOf]; omega
      · have hsame : crcN o = v ↔ o = l := by
          rw [← Hvv.out]
          by_cases hz : l.length = 0
          · have e1 : o = [] := List.eq_nil_of_length_eq_zero (by rw [Hol.out, hz])
            have e2 : l = [] := List.eq_nil_of_length_eq_zero hz
            simp [e1, e2]
          · obtain rfl : k = 32 := by omega
            exact crc_tells o l T x Hol.out (by rw [HT.out]; exact Nat.le_of_lt (Nat.mod_lt _ (by omega))) Hx.out Hle.out
        have hro : Rd wr A3 o := by
          have := Hrow.out
          rw [← Hol.out] at this
          exact Rd.of_own this
        have hrl : Rd wr A l := Hr.out.kp_new' Hkw.out (fun _ h => h.elim)
        have htw : Tbl wr := Ht.out.kp Hkw.out (fun h => h)
        have hsu : Hid (Calls Tryd.prog 7 #[.slice A3 l.length c3] wr.drew fun e w'' => e = .returned (.int .u32 ((crcN o : Nat) : Int)) ∧ w'' = wr.drew) := by
          have := sum_any' A3 o c3 wr.drew (by rw [Hol.out]; simp only [maxLen]; omega) hro htw
          rw [Hol.out] at this
          exact this.mono fun _ _ h => ⟨h.1, h.2.symm⟩
        have hto := Rd.text (w := wr.drew) hro 22 9 5 c3 Tryd.underlying22 Tryd.underlying5 Tryd.underlying9
        have htl := Rd.text (w := wr.drew) hrl 22 9 5 c Tryd.underlying22 Tryd.underlying5 Tryd.underlying9
        rw [Hol.out] at hto
        have hwk : Hid (Calls Tryd.prog 5 #[] wr.drew fun e w' => e = .returned (.bool true) ∧ Kp (fun _ => False) wr.drew w') := wakes_true wr.drew htw
        have hkd : Hid (Kp (fun _ => False) w wr.drew) := Hkw.out.drew
        have Hsame := Lib.hid hsame
        have Hto := Lib.hid hto
        have Htl := Lib.hid htl
        clear hsame hro hrl htw hto htl kt hm Hkw
        have hiff : (((crcN o : Nat) : Int) == ((v : Nat) : Int)) = ((⟨o.toArray⟩ : ByteArray).toList == (⟨l.toArray⟩ : ByteArray).toList) := by
          rw [ByteArray.toList_eq, ByteArray.toList_eq, int_eq, Bool.eq_iff_iff]
          simp only [decide_eq_true_eq, beq_iff_eq]
          exact Hsame.out
        have Hiff := Lib.hid hiff
        clear hiff Hsame Hle Hrow Hat3
        generalize crcN o = co at *
        generalize (⟨o.toArray⟩ : ByteArray) = so at *
        generalize (⟨l.toArray⟩ : ByteArray) = sl at *
        have h32 : ¬ (k < 32) ∨ (k < 32 ∧ decide (0 < 8 * (l.length : Int)) = false) := by
          rcases Nat.lt_or_ge k 32 with h | h
          · exact .inr ⟨h, by simp; omega⟩
          · exact .inl (by omega)
        rcases h32 with h32 | ⟨h32, hbz⟩
        all_goals
          clear hgo
          go_wp2_with fail
          refine wp_region_still_tail 11 (by kernel_rfl) (by kernel_rfl) ?_
          simp only [List.take_succ_cons, List.take_zero, List.drop_succ_cons, List.drop_zero]
          change wpStill _ _ wr.drew _ _ _
          have hto := Hto.out
          have htl := Htl.out
          still_step
          still_call hsu.out
          repeat still_step
          refine wpStill_nil ?_
          change wpList _ _ _ _ _ wr.drew
          clear hto htl
          generalize wr.drew = wd at *
          have hiff := Hiff.out
          go_wp2_with fail
          refine hwk.out.mono ?_
          rintro e w' ⟨rfl, k4⟩
          have K4 := Lib.hid k4
          clear k4 hiff
          go_wp2_with fail
          go_ret
          exact ⟨rfl, hkd.out.trans K4.out⟩
end Go.Proofs.YtjlijaiihnjibaaDoor
