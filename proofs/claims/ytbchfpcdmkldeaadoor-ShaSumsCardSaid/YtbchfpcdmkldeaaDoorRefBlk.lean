/- The reference's blocks: what Blocks answers of a text: its words of 32 bits. Condition: at most 2^32 bytes. -/
import Derived.Test.YtbchfpcdmkldeaaDoorRefBlkA
namespace Go.Proofs.YtbchfpcdmkldeaaDoor
open Go.RowKit

set_option maxHeartbeats 4000000 in
set_option maxRecDepth 100000 in
theorem blocks_any (l : List UInt8) (w : World) (hl : l.length ≤ 4294967296) :
    Calls Tryd.prog 21 #[.string ⟨l.toArray⟩] w fun e w' => ∃ v, e = .returned v ∧ w'.ownsRow w.heap.size 30 1 v ((tailL l l.length).length / 4) (c32 (wordsN (tailL l l.length) ((tailL l l.length).length / 4))) ∧ Kp (fun _ => False) w w' := by
  obtain ⟨i0, hi, hz0, hz1, hz2⟩ := info_parts infoU32
  have hsz := str_size l
  go_enter Tryd.func21, Tryd.ntmps21
  go_wp2_with fail
  have e1 : (⟨l.toArray⟩ : ByteArray) ++ ({ data := #[128] } : ByteArray) = ⟨(l ++ [128]).toArray⟩ := str_add l [128]
  rw [e1]
  clear e1 hsz
  go_loop [0] (fun s => ∃ (bs : ByteArray) (j : Nat), s = .string bs ∧ bs = ⟨(l ++ [128] ++ List.replicate j 0).toArray⟩ ∧ j ≤ zerosN l.length) (fun s => 64 + l.length - strS s)
  case atStart => exact ⟨_, 0, rfl, by simp, Nat.zero_le _⟩
  case round =>
    obtain ⟨bs, j, rfl, hbs, hj⟩ := hrel
    have hn : bs.size = l.length + 1 + j := by rw [hbs, str_size]; simp; omega
    have hz : zerosN l.length < 64 := Nat.mod_lt _ (by decide)
    have Hbs := Lib.hid hbs
    clear hbs
    have ht : ((bs.size : Int)).tmod 64 = ((bs.size % 64 : Nat) : Int) := (Int.ofNat_tmod bs.size 64).symm
    have Hn := Lib.hid hn
    have Hj := Lib.hid hj
    have hn2 : bs.size ≤ 4294967400 := by omega
    clear hn hj
    by_cases h56 : bs.size % 64 = 56
    · rw [h56] at ht
      have hjz : Hid (j = zerosN l.length) := Lib.hid (by have := Hj.out; have := Hn.out; unfold zerosN at *; omega)
      go_wp2_with fail
      clear ht h56
      obtain ⟨pre, hpre⟩ : ∃ pre, l ++ [128] ++ List.replicate (zerosN l.length) 0 = pre := ⟨_, rfl⟩
      have Hpd : Hid (tailL l l.length = pre ++ be8 (l.length * 8)) := Lib.hid (by rw [← hpre]; rfl)
      have Hb0 : Hid (bs = ⟨pre.toArray⟩) := Lib.hid (by rw [Hbs.out, hjz.out, hpre])
      clear hpre Hbs hjz Hj Hn
      go_loopw [0, 4] (fun s b wr => ∃ (b2 : ByteArray) (i : Nat) (z : Int), s = .string b2 ∧ b = .int .i64 z ∧ z = 7 - (i : Int) ∧ i ≤ 8 ∧ b2 = ⟨(pre ++ (be8 (l.length * 8)).take i).toArray⟩ ∧ Kp (fun _ => False) w wr) (fun _ b _ => (intOf b + 1).toNat)
      case atStart => exact ⟨bs, 0, 7, rfl, rfl, rfl, by omega, by rw [Hb0.out]; simp, Kp.refl _ _⟩
      case round =>
        obtain ⟨b2, i, z, rfl, rfl, hz, hi8, hb2, hkp⟩ := hrel
        have Hkp := Lib.hid hkp
        have Hb2 := Lib.hid hb2
        have Hz := Lib.hid hz
        clear hkp hb2 hz
        by_cases hi8' : i < 8
        · obtain ⟨q, hq⟩ : ∃ q : Nat, z = q := ⟨7 - i, by have := Hz.out; omega⟩
          subst hq
          have hq7 : Hid (q = 7 - i) := Lib.hid (by have := Hz.out; omega)
          have hq8 : q < 8 := by have := hq7.out; omega
          obtain ⟨m, hm⟩ : ∃ m, 8 * q = m := ⟨_, rfl⟩
          have hmI : (8 : Int) * (q : Int) = (m : Int) := by omega
          have hm57 : m < 57 := by omega
          have hx := byte_at (l.length * 8) m
          rw [Int.natCast_mul] at hx
          have Hx := Lib.hid hx
          have htk := be8_take (l.length * 8) i hi8'
          rw [show 56 - 8 * i = m by have := hq7.out; omega] at htk
          have Htk := Lib.hid htk
          clear hx htk hm
          generalize UInt8.ofNat (l.length * 8 / 2 ^ m) = x at *
          have hkt := (rd_mark wr 5 [x] (0, 0) wr.heap.size rfl).text 22 9 5 1 Tryd.underlying22 Tryd.underlying5 Tryd.underlying9
          rw [← one_cell x, ← Hx.out] at hkt
          have hkt' : (convert 22 9 (.slice (some ⟨wr.heap.size, 0, none⟩) 1 1)).run Tryd.prog (wr.alloc (.cells #[Value.int .u8 ((l.length : Int) * 8 / 2 ^ m % 256)] 5)) = .ok (.string ⟨#[x]⟩) (wr.alloc (.cells #[Value.int .u8 ((l.length : Int) * 8 / 2 ^ m % 256)] 5)) := hkt
          clear hkt
          have hka := Lib.hid (Hkp.out.alloc (.cells #[Value.int .u8 ((l.length : Int) * 8 / 2 ^ m % 256)] 5))
          have hb2s : b2.size < 4294967500 := by have h := Hb2.out; rw [h, str_size]; have h0 := Hb0.out; rw [h0, str_size] at hn2; rw [List.length_append, List.length_take]; omega
          go_wp2_with fail
          go_roundw
          case rel => exact ⟨_, i + 1, _, rfl, rfl, by have := Hz.out; omega, by omega, by rw [Htk.out, Hb2.out, show ({ data := #[x] } : ByteArray) = ⟨([x] : List UInt8).toArray⟩ from rfl, str_add, List.append_assoc], hka.out⟩
          case measure => simp [intOf]
        · obtain rfl : i = 8 := by omega
          have hzneg : z < 0 := by have := Hz.out; omega
          have Hfin : Hid (b2 = ⟨(tailL l l.length).toArray⟩) := Lib.hid (by rw [Hb2.out, Hpd.out, List.take_of_length_le (by simp [be8])])
          have hpl := padded_length l
          have Hwl : Hid ((tailL l l.length).length / 64 * 16 = (tailL l l.length).length / 4) := Lib.hid (by omega)
          generalize htl : tailL l l.length = pd at *
          have hbsz : b2.size = pd.length := by rw [Hfin.out, str_size]
          have hpb : pd.length < 4294967600 := by
            have h := Hpd.out
            rw [h, List.length_append]
            have h0 := Hb0.out
            rw [h0, str_size] at hn2
            simp [be8]
            omega
          have Hhl := Lib.hid hl
          have Htl := Lib.hid htl
          clear htl Hpd Hb0 Hb2 hn2 hz Hz hi8 hi8' hl
          obtain ⟨M, hM⟩ : ∃ M, pd.length / 64 = M := ⟨_, rfl⟩
          rw [hM] at hpl Hwl
          clear hM
          have hbI : (b2.size : Int) = 64 * (M : Int) := by omega
          go_wp2_with fail
          go_loopw [5, 6] (fun o a wr => ∃ (k : Nat) (A : Option Addr) (c : Nat), k ≤ 16 * M ∧ a = .int .i64 ((4 * k : Nat) : Int) ∧ o = .slice A k c ∧ wr.ownsRow w.heap.size 30 1 (.slice A k c) k (c32 (wordsN pd k)) ∧ Kp (fun _ => False) w wr) (fun _ a _ => 64 * M - (intOf a).toNat)
          case atStart => exact ⟨0, none, 0, by omega, rfl, rfl, World.ownsRow_nil _ _ _ _, Hkp.out⟩
          case round =>
            obtain ⟨k, A, c, hk, rfl, rfl, hown, hkp⟩ := hrel
            have Hown := Lib.hid hown
            have Hkw := Lib.hid hkp
            clear hown hkp
            by_cases hlt : k < 16 * M
            · obtain ⟨a, ha⟩ : ∃ a, 4 * k = a := ⟨_, rfl⟩
              rw [ha]
              have haI : (a : Int) < b2.size := by omega
              have hw1 : IntKind.i64.wrap ((a : Int) + 1) = a + 1 := IntWalk.i64_in _ (by omega)
              have hw2 : IntKind.i64.wrap ((a : Int) + 2) = a + 2 := IntWalk.i64_in _ (by omega)
              have hw3 : IntKind.i64.wrap ((a : Int) + 3) = a + 3 := IntWalk.i64_in _ (by omega)
              have hp1 : (0 : Int) ≤ (a : Int) + 1 := by omega
              have hp2 : (0 : Int) ≤ (a : Int) + 2 := by omega
              have hp3 : (0 : Int) ≤ (a : Int) + 3 := by omega
              have haI1 : (a : Int) + 1 < 64 * (M : Int) := by omega
              have haI2 : (a : Int) + 2 < 64 * (M : Int) := by omega
              have haI3 : (a : Int) + 3 < 64 * (M : Int) := by omega
              have haI0 : (a : Int) < 64 * (M : Int) := by omega
              have hwd : Hid (wf pd (4 * k) 4 = (((pd.getD (a + 0) 0).toNat * 256 + (pd.getD (a + 1) 0).toNat) * 256 + (pd.getD (a + 2) 0).toNat) * 256 + (pd.getD (a + 3) 0).toNat) := Lib.hid (by rw [ha]; simp [wf])
              have hi0 : a < b2.size := by omega
              have hi1 : a + 1 < b2.size := by omega
              have hi2 : ((a : Int) + 2).toNat < b2.size := by omega
              have hi3 : ((a : Int) + 3).toNat < b2.size := by omega
              have hc1 : Hid (c32 [wf pd (4 * k) 4] = [Value.int .u32 (IntKind.u32.wrap (IntKind.u32.wrap (IntKind.u32.wrap (IntKind.u32.wrap (IntKind.u32.wrap (((b2[a]'hi0).toNat : Nat) : Int) * 16777216) + IntKind.u32.wrap (IntKind.u32.wrap (((b2[a + 1]'hi1).toNat : Nat) : Int) * 65536)) + IntKind.u32.wrap (IntKind.u32.wrap (((b2[((a : Int) + 2).toNat]'hi2).toNat : Nat) : Int) * 256)) + IntKind.u32.wrap (((b2[((a : Int) + 3).toNat]'hi3).toNat : Nat) : Int)))]) := Lib.hid (by
                have g0 := text_get b2 pd Hfin.out a hi0
                have g1 := text_get b2 pd Hfin.out (a + 1) hi1
                have g2 := text_get b2 pd Hfin.out (((a : Int) + 2).toNat) hi2
                have g3 := text_get b2 pd Hfin.out (((a : Int) + 3).toNat) hi3
                rw [hwd.out]
                simp only [c32, List.map_cons, List.map_nil, IntKind.wrap_u32']
                have e2 : (b2[((a : Int) + 2).toNat]'hi2).toNat = (pd.getD (a + 2) 0).toNat := g2.trans (by rw [show ((a : Int) + 2).toNat = a + 2 by omega])
                have e3 : (b2[((a : Int) + 3).toNat]'hi3).toNat = (pd.getD (a + 3) 0).toNat := g3.trans (by rw [show ((a : Int) + 3).toNat = a + 3 by omega])
                rw [e2, e3, g0, g1, Nat.add_zero]
                have hb0 := (pd.getD a 0).toNat_lt
                have hb1 := (pd.getD (a + 1) 0).toNat_lt
                have hb2 := (pd.getD (a + 2) 0).toNat_lt
                have hb3 := (pd.getD (a + 3) 0).toNat_lt
                congr 2
                omega)
              have Ha := Lib.hid ha
              clear ha
              go_wp2_with fail
              go_region_law (first | (refine step_append_lies _ rfl (.tmp 38) (.tmp 64) 50 rfl w.heap.size 30 i0 (.int .u32 0) 1 4 Tryd.underlying50 hi hz0 hz1 hz2 rfl (by decide) _ _ _ rfl (Hown.out.drew.alloc _) ⟨wr.heap.size, 0, none⟩ 1 1 [_] rfl rfl (cell_one_new _ _ _) (by simp [Value.oneCell']) (by decide) (by simp only [maxLen]; omega) (by omega) (by have := Hkw.out.size; simp; omega) (wr.heap.size + 1) (by simp) ?_; intro g' cap' w4 hown4 hg4 hat4 hlt4))
              all_goals
                have hown5 : w4.ownsRow w.heap.size 30 1 (.slice (some ⟨g', 0, none⟩) (k + 1) cap') (k + 1) (c32 (wordsN pd (k + 1))) := by
                  rw [wordsN_succ, ← c32_append, hc1.out]
                  exact hown4
                have Hown5 := Lib.hid hown5
                have hk4 := Lib.hid (((Hkw.out.alloc _).drew).grown hg4 (fun q h => .inl (Hown.out.lt q h).1))
                clear hown4 hown5 hg4 hat4 hlt4
                go_wp2_with fail
                go_roundw
                case rel => exact ⟨k + 1, some ⟨g', 0, none⟩, cap', by omega, by have := Ha.out; congr 1; omega, rfl, Hown5.out, hk4.out⟩
                case measure => have := Ha.out; simp [intOf]; omega
            · obtain rfl : k = 16 * M := by omega
              have hge : ¬ (((4 * (16 * M) : Nat) : Int) < 64 * (M : Int)) := by omega
              have hkk : Hid (16 * M = pd.length / 4) := Lib.hid (by have := Hwl.out; omega)
              generalize 4 * (16 * M) = a4 at *
              go_wp2_with fail
              go_ret
              refine ⟨_, rfl, ?_, Hkw.out⟩
              rw [Htl.out, ← hkk.out]
              exact Hown.out
    · have hne : ((bs.size % 64 : Nat) : Int) ≠ 56 := by omega
      have hjz : Hid (j + 1 ≤ zerosN l.length) := Lib.hid (by have := Hj.out; have := Hn.out; unfold zerosN at *; omega)
      generalize ((bs.size % 64 : Nat) : Int) = r at *
      clear h56
      go_wp2_with fail
      go_round
      case rel => exact ⟨_, j + 1, rfl, by rw [Hbs.out, show ({ data := #[0] } : ByteArray) = ⟨([0] : List UInt8).toArray⟩ from rfl, str_add, List.append_assoc, ← List.replicate_succ'], hjz.out⟩
      case measure =>
        have h1 := Hn.out
        have h2 := hjz.out
        have e : (bs ++ ({ data := #[0] } : ByteArray)).size = bs.size + 1 := by rw [ByteArray.size_append]; rfl
        simp only [strS, e]
        omega
end Go.Proofs.YtbchfpcdmkldeaaDoor
