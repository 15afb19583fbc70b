/- PackPuts: the bytes of any things, or why there are none, are what the document says. It looks at most at 60 things and texts of 400 bytes; beyond them it asks known bytes alone. -/
import Derived.Test.YtapohcjohndedaaPuts
import Derived.Test.YtapohcjohndedaaWakes
namespace Go.Proofs.Ytapohcjohndedaa
open Go.RowKit

theorem len_step {a k b : Nat} (h : a ≤ k * 401) (hb : b ≤ 401) : a + b ≤ (k + 1) * 401 := by omega
theorem size_alloc1 (w : World) (o : Obj) : (w.alloc o).heap.size = w.heap.size + 1 := by simp
theorem catroom {a b : Nat} (h : a ≤ 60 * 401) (hb : b ≤ 1000) : a + b ≤ 9223372036854775807 := by omega
theorem add_text (ws : List UInt8) (s : ByteArray) (h : ws.length + s.size ≤ 9223372036854775807) (w : World) : (Op.stringOp .add ⟨ws.toArray⟩ s).run Try.prog w = .ok (.string ⟨(ws ++ tb s).toArray⟩) w := by
  rw [run_string_add_sum w _ _ (by show ws.toArray.size + s.size ≤ _; simpa using h)]
  congr 2

/-- What the document's own loop has behind some things. -/
def Wants (st : List UInt8 × Int) (ok : Bool) (ws : List UInt8) : Prop :=
  (ok = true → st = (ws, 0)) ∧ (ok = false → st = ([], 6))
theorem Wants.step {st : List UInt8 × Int} {ok : Bool} {ws : List UInt8} (h : Wants st ok ws) (x : It) (is : Bool) (bs : List UInt8) (h1 : is = true → enc1 x = some bs) (h0 : is = false → enc1 x = none) : Wants (put1 st x) (ok && is) (ws ++ bs) := by
  rcases ok with _ | _
  · have e := h.2 rfl
    subst e
    refine ⟨fun h => by simp at h, fun _ => ?_⟩
    rcases is with _ | _
    · rw [put1, h0 rfl]; rfl
    · rw [put1, h1 rfl]; rfl
  · have e := h.1 rfl
    subst e
    rcases is with _ | _
    · refine ⟨fun h => by simp at h, fun _ => ?_⟩
      rw [put1, h0 rfl]; rfl
    · refine ⟨fun _ => ?_, fun h => by simp at h⟩
      rw [put1, h1 rfl]; rfl

theorem num_any (wd : Int) (n : Nat) (w : World) (hn : n < 18446744073709551616) :
    Calls Try.prog 8 #[.int .i64 wd, .int .u64 n] w fun e w' => ∃ bs : List UInt8, e = .returned (.tuple #[.string ⟨bs.toArray⟩, .bool (fitB wd n)]) ∧ bs.length ≤ 8 ∧ (fitB wd n = true → bs = beN wd.toNat n) ∧ Kp (fun _ => False) w w' := by
  rcases hw : wdB wd with _ | _
  · refine (num_odd wd n w hw).mono ?_
    rintro e w' ⟨rfl, hk⟩
    exact ⟨[], by rw [wdB_not hw n], by simp, by rw [wdB_not hw n]; simp, hk⟩
  · rcases wdB_cases hw with rfl | rfl | rfl | rfl
    · refine (num_fine1 n w hn).mono ?_
      rintro e w' ⟨rfl, hk⟩
      exact ⟨beN 1 n, rfl, by simp [beN_length], fun _ => rfl, hk⟩
    · refine (num_fine2 n w hn).mono ?_
      rintro e w' ⟨rfl, hk⟩
      exact ⟨beN 2 n, rfl, by simp [beN_length], fun _ => rfl, hk⟩
    · refine (num_fine4 n w hn).mono ?_
      rintro e w' ⟨rfl, hk⟩
      exact ⟨beN 4 n, rfl, by simp [beN_length], fun _ => rfl, hk⟩
    · refine (num_fine8 n w hn).mono ?_
      rintro e w' ⟨rfl, hk⟩
      exact ⟨beN 8 n, rfl, by simp [beN_length], fun _ => rfl, hk⟩

set_option maxHeartbeats 400000 in
theorem pp_great {B : Nat} {A : Option Addr} {l : List It} {w : World} (h : Its w B A l) (hg : greatB l = true) (c : Nat) (hc : l.length ≤ c) (hm : c ≤ maxLen) :
    Calls Try.prog 3 #[.slice A l.length c] w fun e w' => e = .returned (.bool true) ∧ Kp (fun k => w.heap.size ≤ k) w w' := by
  have hcall := great_any h c hc hm
  rw [hg] at hcall
  have Hc := Lib.hid hcall
  clear hcall h hg hm
  go_enter Try.func3, Try.ntmps3
  go_wp2_with fail
  refine Hc.out.mono ?_
  rintro e w1 ⟨rfl, rfl⟩
  go_wp2_with fail
  refine (wakes_true w).mono ?_
  rintro e w1 ⟨rfl, k1⟩
  have K1 := Lib.hid k1
  clear k1
  go_wp2_with fail
  go_ret
  exact ⟨rfl, K1.out.mono fun _ _ h => h.elim⟩

set_option maxRecDepth 100000 in
set_option maxHeartbeats 2000000 in
theorem pp_small {B : Nat} {A : Option Addr} {l : List It} {w : World} (h : Its w B A l) (hB : B ≤ w.heap.size) (hg : greatB l = false) (c : Nat) (hc : l.length ≤ c) (hm : c ≤ maxLen) :
    Calls Try.prog 3 #[.slice A l.length c] w fun e w' => e = .returned (.bool true) ∧ Kp (fun k => w.heap.size ≤ k) w w' := by
  obtain ⟨hl60, hl400⟩ := not_great hg
  have hcall := great_any h c hc hm
  rw [hg] at hcall
  obtain ⟨C, hC⟩ : ∃ C, C = w.heap.size := ⟨_, rfl⟩
  rw [← hC]
  have H := Lib.hid h
  have HB := Lib.hid hB
  have HC := Lib.hid hC
  have H4 := Lib.hid hl400
  have Hg := Lib.hid hg
  have Hc := Lib.hid hcall
  have Hle := Lib.hid (putAll_le l hl400)
  clear h hB hg hC hl400 hcall hm hc
  go_enter Try.func3, Try.ntmps3
  go_wp2_with fail
  refine Hc.out.mono ?_
  rintro e w1 ⟨rfl, rfl⟩
  go_wp2_with fail
  go_loopw [3, 4, 5] (fun ss ok i wr => ∃ (k : Nat) (b : Bool) (ws : List UInt8), k ≤ l.length ∧ i = .int .i64 k ∧ ok = .bool b ∧ ss = .string ⟨ws.toArray⟩ ∧ ws.length ≤ k * 401 ∧ Wants (putAll (l.take k)) b ws ∧ Kp (fun k => C ≤ k) w wr) (fun _ _ i _ => l.length - (intOf i).toNat)
  case atStart => exact ⟨0, true, [], Nat.zero_le _, rfl, rfl, rfl, by simp, ⟨fun _ => rfl, fun h => by simp at h⟩, Kp.refl _ _⟩
  case round =>
    obtain ⟨k, ok, ws, hk, rfl, rfl, rfl, hws, hwa, hkp⟩ := hrel
    have Hwa := Lib.hid hwa
    have Hkp := Lib.hid hkp
    have Hws := Lib.hid hws
    clear hwa hkp hws
    by_cases hlt : k < l.length
    · have hit := H.out.keep (w' := wr) (fun q hq => Hkp.out.block q (Nat.lt_of_lt_of_le hq HB.out) (by rw [HC.out]; have := HB.out; omega))
      obtain ⟨b, o, rfl, hbB, c0, c1, c2, c3⟩ := hit.at_ hlt
      have hok := H.out.1 _ (List.getElem_mem hlt)
      have hst := putAll_take l k hlt
      have hs4 := H4.out _ (List.getElem_mem hlt)
      generalize l[k] = x at *
      obtain ⟨d, wd, n, s⟩ := x
      simp only at c0 c1 c2 c3 hs4
      obtain ⟨hd0, hd1, hw0, hw1, hn1, hs1⟩ := hok
      simp only at hd0 hd1 hw0 hw1 hn1 hs1
      have Hst := Lib.hid hst
      have hwr : w.heap.size ≤ wr.heap.size := Hkp.out.size
      have hbw : b < w.heap.size := Nat.lt_of_lt_of_le hbB HB.out
      have HCw : Hid (C ≤ wr.heap.size) := by show C ≤ wr.heap.size; rw [HC.out]; exact hwr
      generalize putAll (l.take k) = st at *
      have hlen2 := le401 Hws.out hlt hl60
      have Hlen := Lib.hid hlen2
      have Hn1 := Lib.hid hn1
      clear hst hit hs1 hn1 hlen2
      by_cases e0 : d = 0
      · subst e0
        rcases ok with _ | _
        all_goals
          go_wp2_with fail
          refine (num_any wd n _ Hn1.out).mono ?_
          rintro e w2 ⟨bs, rfl, hb8, hbe, k2⟩
          have K2 := Lib.hid ((Hkp.out.alloc (.cells #[.int .u8 0, .int .i64 wd, .int .u64 n, .string s] 27)).trans (k2.mono (fun _ _ h => h.elim)))
          have hadd := add_text ws ⟨bs.toArray⟩ (catroom Hlen.out (by show bs.toArray.size ≤ 1000; simp; omega))
          have Hbe := Lib.hid hbe
          have Hb8 := Lib.hid hb8
          clear k2 hbe hb8
          generalize hfb : fitB wd n = fb at *
          have Hfb := Lib.hid hfb
          clear hfb
          go_wp2_with fail
          go_roundw
          case rel =>
            refine ⟨k + 1, _, ws ++ bs, by omega, by go_num, rfl, rfl, by rw [List.length_append]; exact len_step Hws.out (by have := Hb8.out; omega), ?_, K2.out⟩
            rw [Hst.out]
            refine Wants.step Hwa.out ⟨0, wd, n, s⟩ fb bs (fun h => ?_) (fun h => ?_)
            · rw [Hbe.out h]
              simp [enc1, Hfb.out, h]
            · simp [enc1, Hfb.out, h]
          case measure => simp [intOf]; omega
      · by_cases e1 : d = 1
        · subst e1
          go_wp2_with fail
          refine (hash_item ⟨1, wd, n, s⟩ _).mono ?_
          rintro e w2 ⟨rfl, k2⟩
          have K2 := Lib.hid ((Hkp.out.alloc (.cells #[.int .u8 1, .int .i64 wd, .int .u64 n, .string s] 27)).trans (k2.mono (fun _ _ h => h.elim)))
          have hb32 := hb_length s
          have hst2 := store_hash w2 (hb s) hb32
          have hlen2 : (bcs (hb s)).length = 32 := by rw [bcs_length, hb32]
          have hcv : (convert 33 9 (.slice (some ⟨w2.heap.size, 0, none⟩) 32 32)).run Try.prog (w2.alloc (.cells (bcs (hb s)).toArray 31)) = .ok (.string ⟨(hb s).toArray⟩) (w2.alloc (.cells (bcs (hb s)).toArray 31)) := by
            have := (rd_new w2 (hb s) 31).text 33 9 5 32 Try.underlying33 Try.underlying5 Try.underlying9
            rwa [hb32] at this
          have hadd := add_text ws ⟨(hb s).toArray⟩ (catroom Hlen.out (by show (hb s).toArray.size ≤ 1000; simp [hb32]))
          have Hb32 := Lib.hid hb32
          clear k2 hb32
          generalize hhb : hb s = hs at *
          have Hhb := Lib.hid hhb
          clear hhb
          go_wp2_with fail
          go_roundw
          case rel =>
            refine ⟨k + 1, _, ws ++ hs, by omega, by go_num, rfl, rfl, by rw [List.length_append]; exact len_step Hws.out (by rw [Hb32.out]; decide), ?_, K2.out.alloc _⟩
            rw [Hst.out]
            have := Wants.step Hwa.out ⟨1, wd, n, s⟩ true hs (fun h => by simp [enc1, Hhb.out]) (fun h => by cases h)
            rwa [Bool.and_true] at this
          case measure => simp [intOf]; omega
        · by_cases e2 : d = 2
          · subst e2
            have hadd := add_text ws s (catroom Hlen.out (by omega))
            go_wp2_with fail
            go_roundw
            case rel =>
              refine ⟨k + 1, _, ws ++ tb s, by omega, by go_num, rfl, rfl, by rw [List.length_append]; exact len_step Hws.out (by have e : (tb s).length = s.size := Array.length_toList; omega), ?_, Hkp.out.alloc _⟩
              rw [Hst.out]
              have := Wants.step Hwa.out ⟨2, wd, n, s⟩ true (tb s) (fun h => by simp [enc1]) (fun h => by cases h)
              rwa [Bool.and_true] at this
            case measure => simp [intOf]; omega
          · have b0 : (d == 0) = false := by simpa using e0
            have b1 : (d == 1) = false := by simpa using e1
            have b2 : (d == 2) = false := by simpa using e2
            by_cases h256 : s.size < 256
            · have hd256 : decide ((s.size : Int) < 256) = true := by simp; omega
              have hrd : Rd ((wr.alloc (.cells #[.int .u8 d, .int .i64 wd, .int .u64 n, .string s] 27)).alloc (.cells #[.int .u8 (s.size : Int)] 5)) (some ⟨wr.heap.size + 1, 0, none⟩) [UInt8.ofNat s.size] := by
                refine .inr ⟨_, 0, rfl, fun j u hu => ?_⟩
                rcases j with _ | j
                · have hbx := Box.new (wr.alloc (.cells #[.int .u8 d, .int .i64 wd, .int .u64 n, .string s] 27)) 5 #[.int .u8 (s.size : Int)]
                  simp only [size_alloc1] at hbx
                  rw [hbx.cell]
                  cases hu
                  have e : ((UInt8.ofNat s.size).toNat : Int) = (s.size : Int) := by simp; omega
                  rw [e]
                  rfl
                · simp at hu
              have hcv := hrd.text 33 9 5 1 Try.underlying33 Try.underlying5 Try.underlying9
              simp only [List.length_cons, List.length_nil, Nat.zero_add] at hcv
              have hadd := add_text ws ⟨#[UInt8.ofNat s.size]⟩ (catroom Hlen.out (by show (#[UInt8.ofNat s.size] : Array UInt8).size ≤ 1000; simp))
              have hadd2 := add_text (ws ++ [UInt8.ofNat s.size]) s (by rw [List.length_append]; have := Hlen.out; simp; omega)
              have e3 : tb ⟨#[UInt8.ofNat s.size]⟩ = [UInt8.ofNat s.size] := rfl
              simp only [e3] at hadd
              clear hrd e3
              generalize hu : UInt8.ofNat s.size = u at *
              have Hu := Lib.hid hu
              clear hu
              rcases ok with _ | _
              all_goals
                go_wp2_with fail
                go_roundw
                case rel =>
                  refine ⟨k + 1, _, ws ++ u :: tb s, by omega, by go_num, rfl, rfl, by rw [List.length_append, List.length_cons]; exact len_step Hws.out (by have e : (tb s).length = s.size := Array.length_toList; omega), ?_, (Hkp.out.alloc _).alloc _⟩
                  rw [Hst.out]
                  exact Wants.step Hwa.out ⟨d, wd, n, s⟩ true (u :: tb s) (fun h => by rw [← Hu.out]; simp [enc1, e0, e1, e2, h256]) (fun h => by cases h)
                case measure => simp [intOf]; omega
            · have hd256 : decide ((s.size : Int) < 256) = false := by simp; omega
              have hwrap : IntKind.u8.wrap (s.size : Int) = (s.size : Int) % 256 := IntKind.wrap_u8 _
              have hrd : Rd ((wr.alloc (.cells #[.int .u8 d, .int .i64 wd, .int .u64 n, .string s] 27)).alloc (.cells #[.int .u8 ((s.size : Int) % 256)] 5)) (some ⟨wr.heap.size + 1, 0, none⟩) [UInt8.ofNat s.size] := by
                refine .inr ⟨_, 0, rfl, fun j u hu => ?_⟩
                rcases j with _ | j
                · have hbx := Box.new (wr.alloc (.cells #[.int .u8 d, .int .i64 wd, .int .u64 n, .string s] 27)) 5 #[.int .u8 ((s.size : Int) % 256)]
                  simp only [size_alloc1] at hbx
                  rw [hbx.cell]
                  cases hu
                  have e : ((UInt8.ofNat s.size).toNat : Int) = ((s.size : Int) % 256) := by simp
                  rw [e]
                  rfl
                · simp at hu
              have hcv := hrd.text 33 9 5 1 Try.underlying33 Try.underlying5 Try.underlying9
              simp only [List.length_cons, List.length_nil, Nat.zero_add] at hcv
              have hadd := add_text ws ⟨#[UInt8.ofNat s.size]⟩ (catroom Hlen.out (by show (#[UInt8.ofNat s.size] : Array UInt8).size ≤ 1000; simp))
              have hadd2 := add_text (ws ++ [UInt8.ofNat s.size]) s (by rw [List.length_append]; have := Hlen.out; simp; omega)
              have e3 : tb ⟨#[UInt8.ofNat s.size]⟩ = [UInt8.ofNat s.size] := rfl
              simp only [e3] at hadd
              clear hrd e3
              generalize hu : UInt8.ofNat s.size = u at *
              have Hu := Lib.hid hu
              clear hu
              rcases ok with _ | _
              all_goals
                go_wp2_with fail
                go_roundw
                case rel =>
                  refine ⟨k + 1, _, ws ++ u :: tb s, by omega, by go_num, rfl, rfl, by rw [List.length_append, List.length_cons]; exact len_step Hws.out (by have e : (tb s).length = s.size := Array.length_toList; omega), ?_, (Hkp.out.alloc _).alloc _⟩
                  rw [Hst.out]
                  exact Wants.step Hwa.out ⟨d, wd, n, s⟩ false (u :: tb s) (fun h => by cases h) (fun h => by simp [enc1, e0, e1, e2, h256])
                case measure => simp [intOf]; omega
    · obtain rfl : k = l.length := by omega
      rw [List.take_length] at Hwa
      have hit := H.out.keep (w' := wr) (fun q hq => Hkp.out.block q (Nat.lt_of_lt_of_le hq HB.out) (by rw [HC.out]; have := HB.out; omega))
      have HCw : Hid (C ≤ wr.heap.size) := by show C ≤ wr.heap.size; rw [HC.out]; exact Hkp.out.size
      have hpu := puts_any hit (Nat.le_trans HB.out Hkp.out.size) Hg.out c
      have Hpu := Lib.hid hpu
      have hlen2 : (putAll l).1.length ≤ 60 * 401 := by
        have := Hle.out l.length (Nat.le_refl _)
        rw [List.take_length] at this
        exact Nat.le_trans this (Nat.mul_le_mul_right 401 hl60)
      have Hl2 := Lib.hid hlen2
      clear hit hpu hlen2
      go_wp2_with fail
      refine Hpu.out.mono ?_
      rintro e w2 ⟨p, rfl, hp2, k2⟩
      have P2 := Lib.hid hp2
      have K2 := Lib.hid (Hkp.out.trans (k2.mono fun _ _ h => Nat.le_trans HCw.out h))
      clear hp2 k2
      go_wp2_with fail
      refine (bytes_any P2.out (Nat.le_trans Hl2.out (by decide))).mono ?_
      rintro e w3 ⟨A2, c2, rfl, _, _, hr, _, k3⟩
      have K3 := Lib.hid (K2.out.trans (k3.mono fun _ _ h => h.elim))
      clear k3
      rcases ok with _ | _
      · have e1 := Hwa.out.2 rfl
        simp only [e1] at hr ⊢
        clear hr
        go_wp2_with fail
        refine (wakes_true w3).mono ?_
        rintro e w4 ⟨rfl, k4⟩
        have K4 := Lib.hid k4
        clear k4
        go_wp2_with fail
        go_ret
        exact ⟨rfl, K3.out.trans (K4.out.mono fun _ _ h => h.elim)⟩
      · have e1 := Hwa.out.1 rfl
        simp only [e1] at hr ⊢
        have hcv := hr.text 33 9 5 c2 Try.underlying33 Try.underlying5 Try.underlying9
        clear hr
        go_wp2_with fail
        refine (wakes_true w3).mono ?_
        rintro e w4 ⟨rfl, k4⟩
        have K4 := Lib.hid k4
        clear k4
        go_wp2_with fail
        go_ret
        exact ⟨rfl, K3.out.trans (K4.out.mono fun _ _ h => h.elim)⟩

end Go.Proofs.Ytapohcjohndedaa
