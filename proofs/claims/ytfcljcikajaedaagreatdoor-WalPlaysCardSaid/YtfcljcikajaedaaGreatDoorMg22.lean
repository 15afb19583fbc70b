/- What wal.inPlace and wal.behind answer: the sheets that lie in their places, by their numbers; the next number. Conditions: the power is on; the log lies on the disk; the table of half bytes reads as the program's text lays it. -/
import Derived.Test.YtfcljcikajaedaaGreatDoorMg16
import Derived.Test.YtfcljcikajaedaaGreatDoorMg21
namespace Go.Proofs.YtfcljcikajaedaaGreatDoor
open Go.RowKit Go.Maps

theorem Fm.mono {w : World} {g N N' : Nat} {F : Nat → Option Sh} (h : Fm w g N F) (hn : N ≤ N') : Fm w g N' F := by
  obtain ⟨n, D, ho, hl, r⟩ := h
  exact ⟨n, D, ho, Nat.le_trans hl hn, r⟩
theorem takeV_mk {l : List UInt8} {s : Sh} (h : takeS l = some s) : takeV l = .tuple #[.agg #[.int .u64 s.q, .bool s.last, .string ⟨s.t.toArray⟩], .int .i64 0] := takeV_some h
section
variable {w : World} {b : Nat} {d : Dm} {F : Nat → Prop}
set_option maxRecDepth 100000 in
set_option maxHeartbeats 4000000 in
theorem inPlace_any (hD : Dsk F w b d) (ht : Tbl w) (n : Nat) (hn0 : 0 < n) (hn : n ≤ 512) (hlen : 2 + n ≤ d.on.length) (hp : d.power = true) :
    Calls Tryz.prog 38 #[.pointer (some ⟨b, 0, none⟩), .int .i64 n] w fun e w' => ∃ g, e = .returned (.tuple #[.map (some g), .int .i64 0]) ∧ w.heap.size ≤ g ∧ Fm w' g n (sheetF d.nowAt n) ∧ Kp (fun _ => False) w w' := by
  obtain ⟨vs, vw, gm, hdk, hsub⟩ := hD
  have OK := Lib.hid hdk.ok
  have DD := Lib.hid (show Dsk F w b d from ⟨vs, vw, gm, hdk, hsub⟩)
  have HT := Lib.hid ht
  have HP := Lib.hid hp
  have HLN := Lib.hid hlen
  have FM := Lib.hid (Fm.made w)
  have KM := Lib.hid ((Kp.refl (fun _ => False) w).alloc (.map #[] 0))
  clear hdk hsub ht hp hlen
  have hmm := @run_makeMap Tryz.prog
  go_enter Tryz.func38, Tryz.ntmps38
  go_wp2_with fail
  clear hmm
  generalize w.alloc (.map #[] 0) = w0 at *
  go_loopw [7] (fun i wr => ∃ k : Nat, k ≤ n ∧ i = .int .i64 ((2 + k : Nat) : Int) ∧ Fm wr w.heap.size k (foundK d.nowAt n k) ∧ Kp (fun _ => False) w wr)
    (fun i _ => 2 + n - (intOf i).toNat)
  case atStart => exact ⟨0, Nat.zero_le _, rfl, by rw [foundK_zero]; exact FM.out, KM.out⟩
  case round =>
    obtain ⟨k, hk, rfl, hfm, hkw⟩ := hrel
    have HF := Lib.hid hfm
    have HK := Lib.hid hkw
    clear hfm hkw
    have hgl := HF.out.lt
    obtain ⟨at_, hat⟩ : ∃ a, 2 + k = a := ⟨_, rfl⟩
    rw [hat]
    have HAT := Lib.hid hat
    by_cases hlt : k < n
    · have hd1 : ((at_ : Int) < 2 + (n : Int)) := by omega
      have hrd := read_any (DD.out.still HK.out) at_
      have hx : d.readS at_ = (d.nowAt at_, 0) := by
        have : secB d at_ = true := by have := HLN.out; simp [secB]; omega
        simp [Dm.readS, HP.out, this]
      rw [hx] at hrd
      dsimp only at hrd
      have hl5 : (d.nowAt at_).length = 512 := nowAt_length OK.out at_ (by have := HLN.out; omega)
      obtain ⟨l, hl⟩ : ∃ l, d.nowAt at_ = l := ⟨_, rfl⟩
      rw [hl] at hrd hl5
      rw [hl5] at hrd
      have HL := Lib.hid (show d.nowAt (2 + k) = l by rw [hat]; exact hl)
      have HL5 := Lib.hid hl5
      clear hat hx hl hl5
      go_wp2_with fail
      refine hrd.mono ?_
      clear hrd
      rintro e w1 ⟨A, rfl, hr, hk1⟩
      have R1 := Lib.hid hr
      have K1 := Lib.hid (HK.out.trans hk1)
      have F1 := Lib.hid (HF.out.kp hk1 (fun e => e))
      clear hr hk1
      go_wp2_with fail
      refine (take_any A 512 512 l w1 R1.out (HT.out.kp K1.out (fun e => e)) HL5.out).mono ?_
      rintro e w2 ⟨rfl, hk2⟩
      have K2 := Lib.hid (K1.out.trans hk2)
      have F2 := Lib.hid (F1.out.kp hk2 (fun e => e))
      clear hk2
      rcases hs : takeS l with _ | s
      · rw [takeV_none hs]
        have HFK := Lib.hid (foundK_none (V := d.nowAt) (n := n) (k := k) (by rw [HL.out]; exact hs))
        clear hs
        go_wp2_with fail
        go_roundw
        case rel =>
          refine ⟨k + 1, by omega, ?_, ?_, K2.out.alloc _⟩
          · have := HAT.out
            rw [show ((2 + (k + 1) : Nat) : Int) = (at_ : Int) + 1 by omega]
          · rw [HFK.out]
            exact (F2.out.kp ((Kp.refl (fun _ => False) w2).alloc _) (fun e => e)).mono (by omega)
        case measure => simp [intOf]; omega
      · rw [takeV_mk hs]
        have hq : s.q < 18446744073709551616 := (takeS_lt hs).1
        have HS := Lib.hid (show takeS (d.nowAt (2 + k)) = some s by rw [HL.out]; exact hs)
        clear hs
        have F3 := Lib.hid (F2.out.kp ((Kp.refl (fun _ => False) w2).alloc (.cells #[.int .u64 s.q, .bool s.last, .string ⟨s.t.toArray⟩] 120)) (fun e => e))
        have K3 := Lib.hid (K2.out.alloc (.cells #[.int .u64 s.q, .bool s.last, .string ⟨s.t.toArray⟩] 120))
        have B3 := Lib.hid (Box.new w2 120 #[.int .u64 s.q, .bool s.last, .string ⟨s.t.toArray⟩])
        have HQ := Lib.hid hq
        clear hq
        go_upto_region 9 with fail
        generalize w2.alloc (.cells #[.int .u64 s.q, .bool s.last, .string ⟨s.t.toArray⟩] 120) = w3 at *
        generalize w2.heap.size = g3 at *
        have c0 := B3.out.cell 0
        simp at c0
        go_wp2_with fail
        refine (place_any s.q n w3 HQ.out hn0 hn).mono ?_
        rintro e w4 ⟨rfl, rfl⟩
        by_cases hpl : s.q % n = k
        · have HFK := Lib.hid (foundK_put HS.out hpl)
          rw [hpl, HAT.out]
          clear hpl
          have c1 := B3.out.cell 1
          have c2 := B3.out.cell 2
          simp at c1 c2
          go_wp2_with (first | (refine wpList_putSh rfl (.tmp 43) (.tmp 45) (.tmp 46) rfl (g := w.heap.size) (N := k) rfl F3.out (by omega) s HQ.out rfl rfl ?_; intro w5 hf5 hk5) | fail)
          go_roundw
          case rel =>
            refine ⟨k + 1, by omega, ?_, ?_, K3.out.trans_new hk5 (fun b e => .inl (by omega))⟩
            · have := HAT.out
              rw [show ((2 + (k + 1) : Nat) : Int) = (at_ : Int) + 1 by omega]
            · rw [HFK.out]
              exact hf5
          case measure => simp [intOf]; omega
        · have HFK := Lib.hid (foundK_far HS.out hpl)
          obtain ⟨p, hp⟩ : ∃ p, 2 + s.q % n = p := ⟨_, rfl⟩
          rw [hp]
          have hne : ((p : Int) == (at_ : Int)) = false := by have := HAT.out; simp; omega
          have hne2 : (p == at_) = false := by have := HAT.out; simp; omega
          clear hpl hp
          go_wp2_with fail
          go_roundw
          case rel =>
            refine ⟨k + 1, by omega, ?_, ?_, K3.out⟩
            · have := HAT.out
              rw [show ((2 + (k + 1) : Nat) : Int) = (at_ : Int) + 1 by omega]
            · rw [HFK.out]
              exact F3.out.mono (by omega)
          case measure => simp [intOf]; omega
    · have hd1 : ¬ ((at_ : Int) < 2 + (n : Int)) := by omega
      have hkn : k = n := by omega
      have HFA := Lib.hid (show Fm wr w.heap.size n (sheetF d.nowAt n) by
        have := HF.out
        rw [hkn] at this
        rwa [foundK_all _ _ hn0] at this)
      clear hkn hat
      go_wp2_with fail
      go_ret2
      exact ⟨_, rfl, Nat.le_refl _, HFA.out, HK.out⟩
end
set_option maxRecDepth 100000 in
set_option maxHeartbeats 4000000 in
theorem behind_any {w : World} {g N : Nat} {F : Nat → Option Sh} (h : Fm w g N F) (hb : ∀ q s, F q = some s → q < 18446744073709551616) (f : Nat) (hf : f < 18446744073709551616) :
    Calls Tryz.prog 40 #[.map (some g), .int .u64 f] w fun e w' => ∃ r, e = .returned (.int .u64 (r : Nat)) ∧ IsNext F f r ∧ Kp (fun _ => False) w w' := by
  have HB := Lib.hid hb
  have HFF := Lib.hid hf
  obtain ⟨n, D, ho, _, hD⟩ := h
  have HD := Lib.hid hD
  have HO := Lib.hid ho
  clear hb hf ho hD
  go_enter Tryz.func40, Tryz.ntmps40
  go_wp2_with (first | (at_range; refine wpList_range_own _ rfl _ 87 rfl 35 120 keyedU Tryz.underlying87 rdSh g n D rfl HO.out ?_; intro w0 hrg0 hg0 hs0) | fail)
  go_frame
  have KM := Lib.hid ((Kp.refl (fun _ => False) w).grown hg0 (fun k e => by cases e))
  have HR0 := Lib.hid hrg0
  clear hrg0 hg0 hs0
  go_loopw [1] (fun s1 wr => ∃ (m : Nat) (left : Lit → Bool) (cnt : Nat), s1 = .int .u64 m ∧ m < 18446744073709551616 ∧ MaxF F D f m left ∧ wr.ranges Tryz.prog 35 rdSh g w.heap.size n D left cnt ∧ Kp (fun _ => False) w wr)
    (fun _ wr => wr.rangeLeft g w.heap.size)
  case atStart => exact ⟨f, _, _, rfl, HFF.out, MaxF.start HD.out f, HR0.out, KM.out⟩
  case round =>
    obtain ⟨m, left, cnt, rfl, hm, hmax, hrg, hkw⟩ := hrel
    have HMX := Lib.hid hmax
    have HRG := Lib.hid hrg
    have HKW := Lib.hid hkw
    have HM := Lib.hid hm
    clear hmax hrg hkw hm
    go_wp2_with (first | (at_next; refine wpList_next_ranges _ rfl _ rfl 35 keyedU rdSh (Value.int .u64) mkSh (fun key kl hk => by obtain ⟨x, e, _⟩ := Maps.keyOf_int_inv Tryz.underlying35 hk; exact ⟨x, e⟩) (fun v y hv => by obtain ⟨s, e, _⟩ := rdSh_inv hv; exact ⟨s, e⟩) g w.heap.size n D _ _ rfl HRG.out ?_ ?_) | fail)
    · intro hc0 hl0
      have HL0 := Lib.hid hl0
      clear hc0 hl0
      go_wp2_with fail
      go_ret
      exact ⟨m, rfl, HMX.out.done HB.out HL0.out, HKW.out⟩
    · intro x c kl da db w1 cnt1 hkey hlx _ _ hrg1 hlt hg1 _ hen
      obtain ⟨x', e, rfl, hwx⟩ := Maps.keyOf_int_inv Tryz.underlying35 hkey
      cases e
      obtain ⟨q, rfl, hq⟩ := wf_u64' hwx
      have HST := Lib.hid (HMX.out.step HD.out q hq hlx)
      have HR1 := Lib.hid hrg1
      have K1 := Lib.hid (HKW.out.grown hg1 (fun k e => by cases e; exact .inl (Nat.le_refl _)))
      have HLT := Lib.hid hlt
      clear hkey hlx hrg1 hlt hg1 hwx
      have hy64 : (q + 1) % 18446744073709551616 < 18446744073709551616 := Nat.mod_lt _ (by decide)
      have hw : IntKind.u64.wrap ((q : Int) + 1) = (((q + 1) % 18446744073709551616 : Nat) : Int) := wrap_next q
      generalize (q + 1) % 18446744073709551616 = y at *
      have HY := Lib.hid hy64
      clear hq hy64
      go_wp2_with fail
      go_roundw
      case rel => exact ⟨max m y, _, cnt1, by congr 1; omega, Nat.max_lt.2 ⟨HM.out, HY.out⟩, HST.out, HR1.out, K1.out⟩
      case measure => rw [HR1.out.left_eq, HRG.out.left_eq]; exact HLT.out
end Go.Proofs.YtfcljcikajaedaaGreatDoor
