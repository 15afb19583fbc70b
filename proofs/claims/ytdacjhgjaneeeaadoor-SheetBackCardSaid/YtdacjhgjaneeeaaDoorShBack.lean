/- There and back, and a sector that was changed: the walk. Condition: the table of half bytes reads as the program's text lays it. -/
import Derived.Test.YtdacjhgjaneeeaaDoorShCuts
import Derived.Test.YtdacjhgjaneeeaaDoorShPutOwn
import Derived.Laws.ShiftsVarLaws
namespace Go.Proofs.YtdacjhgjaneeeaaDoor
open Go.RowKit

theorem store_byte (u : UInt8) (r : Nat) : bits .xor .u8 ((u.toNat : Nat) : Int) ((2 : Int) ^ r % 256) = (((u ^^^ UInt8.ofNat (2 ^ r)).toNat : Nat) : Int) := by
  have h := u8_xor_nat u.toNat (2 ^ r % 256) u.toNat_lt (Nat.mod_lt _ (by decide))
  rw [Int.natCast_emod, Int.natCast_pow] at h
  rw [UInt8.toNat_xor, UInt8.toNat_ofNat', ← h]
  rfl
theorem bcs_set (o : List UInt8) (j : Nat) (u : UInt8) : bcs (o.set j u) = (bcs o).set j (.int .u8 (u.toNat : Nat)) := by
  simp [bcs]
theorem xor_shift (x k T : Nat) : x * 2 ^ T ^^^ 2 ^ (k + T) = (x ^^^ 2 ^ k) * 2 ^ T := by
  have := Nat.shiftLeft_xor_distrib (a := x) (b := 2 ^ k) (i := T)
  simp only [Nat.shiftLeft_eq] at this
  rw [this, ← Nat.pow_add]
theorem xor_ne (x k : Nat) (h : x < 2 ^ k) : x ^^^ 2 ^ k ≠ 0 := by
  intro e
  have := xor_zero_eq x (2 ^ k) e
  omega
/-- Two rows of two kinds do not share a block. -/
theorem own_own {w : World} {b1 b2 : Nat} {e1 e2 : TypeId} {s1 s2 n1 n2 : Nat} {v1 v2 : Value} {x1 x2 : List Value} (h1 : w.ownsRow b1 e1 s1 v1 n1 x1) (h2 : w.ownsRow b2 e2 s2 v2 n2 x2) (hne : e1 ≠ e2) : v1.ownBlock = none ∨ v1.ownBlock ≠ v2.ownBlock := by
  rcases h1.2 with ⟨rfl, _⟩ | ⟨g, cap, cur, rfl, _, hg, _⟩
  · exact .inl rfl
  · right
    have hb : Box w g e1 cur := hg
    intro e
    have := hb.own_ne h2 (fun e => hne e.symm)
    exact this (e.symm.trans rfl)
/-- A sheet's sector. -/
def secS (s : Sh) : List UInt8 := secL s.q s.last s.t
/-- The sectors so far. -/
def SecI (B : Nat) (w : World) (v : Value) (k : Nat) (cs : List Sh) : Prop :=
  ∃ vals : List Value, w.ownsRow B 26 1 v k vals ∧ ∀ j s, j < k → cs[j]? = some s → ∃ g c, vals[j]? = some (.slice (some ⟨g, 0, none⟩) 512 c) ∧ 512 ≤ c ∧ c ≤ maxLen ∧ B ≤ g ∧ w.ownsRow 0 5 1 (.slice (some ⟨g, 0, none⟩) 512 c) 512 (bcs (secS s))
theorem SecI.kp {B : Nat} {w w' : World} {v : Value} {k : Nat} {cs : List Sh} (h : SecI B w v k cs) (hk : Kp (fun _ => False) w w') : SecI B w' v k cs := by
  obtain ⟨vals, h1, h2⟩ := h
  exact ⟨vals, own_off' h1 hk, fun j s hj hs => by
    obtain ⟨g, c, a1, a2, a3, a4, a5⟩ := h2 j s hj hs
    exact ⟨g, c, a1, a2, a3, a4, own_off' a5 hk⟩⟩
/-- Another row grows. -/
theorem SecI.grown {B : Nat} {w w' : World} {v : Value} {k : Nat} {cs : List Sh} {b e s n : Nat} {u : Value} {xs : List Value} (h : SecI B w v k cs) (ho : w.ownsRow b e s u n xs) (h1 : 26 ≠ e) (h2 : 5 ≠ e) (hg : w.grownBy w' u.ownBlock) : SecI B w' v k cs := by
  obtain ⟨vals, a, b⟩ := h
  exact ⟨vals, a.kept hg (own_own a ho h1), fun j s hj hs => by
    obtain ⟨g, c, a1, a2, a3, a4, a5⟩ := b j s hj hs
    exact ⟨g, c, a1, a2, a3, a4, a5.kept hg (own_own a5 ho h2)⟩⟩
theorem info_bytes : (Tryd.prog.info? 26).map (fun i => (i.zero, i.size, i.bytes)) = some (some (.slice none 0 0), 1, 24) := by kernel_rfl
theorem RdS.take' {w : World} {A : Option Addr} {l : List Sh} (h : RdS w A l) (n : Nat) : RdS w A (l.take n) := by
  rcases h with rfl | ⟨b, o, rfl, hc⟩
  · exact .inl (by simp)
  · refine .inr ⟨b, o, rfl, fun j v hj => hc j v ?_⟩
    have e : rowS l = rowS (l.take n) ++ rowS (l.drop n) := by
      unfold rowS
      rw [← List.flatten_append, ← List.map_append, List.take_append_drop]
    rw [e, List.getElem?_append_left (List.getElem?_eq_some_iff.1 hj).1]
    exact hj
theorem sum_wrap (q k : Nat) (hk : k < 18446744073709551616) : IntKind.u64.wrap (k : Int) = k ∧ IntKind.u64.wrap ((q : Int) + (k : Int)) = (((q + k) % 18446744073709551616 : Nat) : Int) := by
  constructor
  · exact IntWalk.u64_in _ (by omega)
  · simp [IntKind.wrap, IntKind.signed, IntKind.bits]

set_option maxRecDepth 100000 in
set_option maxHeartbeats 2000000 in
theorem back_walk (q : Nat) (tx : List UInt8) (wh at_ ch : Nat) (w : World) (hq : q < 18446744073709551616) (hwh : wh < 256) (hat : at_ < 65536) (hch : ch < 4294967296) (ht : Tbl w) :
    Calls Tryd.prog 5 #[.int .u64 q, .string ⟨tx.toArray⟩, .int .u8 wh, .int .u16 at_, .int .u32 ch] w fun e w' => e = .returned (.bool true) ∧ Kp (fun _ => False) w w' := by
  have HT := Lib.hid ht
  clear ht
  have K0 := Lib.hid (Kp.refl (fun _ => False) w)
  obtain ⟨i0, hi0, hz0, hz1, hz2⟩ := info3 info_row
  obtain ⟨j0, hj0, hy0, hy1, hy2⟩ := info3 info_bytes
  by_cases hbig : 5000 < tx.length
  · have hd : decide ((5000 : Int) < tx.length) = true := by simp; omega
    go_enter Tryd.func5, Tryd.ntmps5
    go_wp2_with fail
    refine (wakes_true _ (HT.out.kp K0.out (fun e => e))).mono ?_
    rintro e wz ⟨rfl, hk⟩
    have KZ := Lib.hid (K0.out.trans hk)
    clear hk
    go_wp2_with fail
    go_ret
    exact ⟨rfl, KZ.out⟩
  · have hgt : decide ((5000 : Int) < tx.length) = false := by simp; omega
    obtain ⟨m, hm⟩ : ∃ m, need tx.length = m := ⟨_, rfl⟩
    have hm12 : m ≤ 12 := by rw [← hm]; unfold need; omega
    have hm0 : 0 < m := by rw [← hm]; exact need_pos _
    have hcut := cut_any q tx w hq (by omega)
    rw [hm] at hcut
    have HM := Lib.hid hm
    clear hm
    go_enter Tryd.func5, Tryd.ntmps5
    go_wp2_with fail
    refine hcut.mono ?_
    clear hcut
    rintro e w1 ⟨v1, rfl, hown, hk⟩
    obtain ⟨A1, c1, rfl⟩ := own_shape3 hown
    obtain ⟨g1, rfl, hg1, _⟩ := own_addr hown hm0
    have R1 := Lib.hid (RdS.of_own hown)
    have K1 := Lib.hid hk
    have hb1 := Lib.hid hk.size
    obtain ⟨cs, hcs⟩ : ∃ cs, cutL q tx = cs := ⟨_, rfl⟩
    rw [hcs] at R1
    have HCS := Lib.hid hcs
    clear hown hk hcs
    go_wp2_with fail
    go_loopw [12, 13, 14] (fun s12 s13 s14 wr => ∃ k : Nat, k ≤ m ∧ s14 = .int .i64 k ∧ wr.ownsRow w1.heap.size 30 3 s12 k (rowS (cs.take k)) ∧ SecI w1.heap.size wr s13 k cs ∧ Kp (fun _ => False) w1 wr) (fun _ _ s14 _ => m - (intOf s14).toNat)
    case atStart => exact ⟨0, Nat.zero_le _, rfl, by simpa [rowS] using World.ownsRow_nil _ _ _ _, ⟨[], World.ownsRow_nil _ _ _ _, fun j s hj => absurd hj (Nat.not_lt_zero _)⟩, Kp.refl _ _⟩
    case round =>
      obtain ⟨k, hk, rfl, hown, hsec, hkr⟩ := hrel
      have KR := Lib.hid hkr
      have HO := Lib.hid hown
      have HSec := Lib.hid hsec
      have hws := hkr.size
      clear hown hsec
      by_cases hlt : k < m
      · have hck : cs[k]? = some (shAt q tx k) := by rw [← HCS.out]; exact cutL_get q tx k (by rw [HM.out]; exact hlt)
        have h1 : k < cs.length := (List.getElem?_eq_some_iff.1 hck).1
        have hke : cs[k] = shAt q tx k := (List.getElem?_eq_some_iff.1 hck).2
        obtain ⟨p1, hp1⟩ : ∃ p, 0 + 3 * k = p := ⟨_, rfl⟩
        have t1 := three_at (R1.out.kp hkr (fun _ _ e => e)) h1 hp1
        rw [hke] at t1
        have hsl := shAt_le q tx k
        have hsq := shAt_lt q tx k
        have hlb : (((k : Nat) : Int) == (m : Int) - 1) = (shAt q tx k).last := by
          rw [Bool.eq_iff_iff]
          simp only [shAt, HM.out, beq_iff_eq]
          omega
        have hsw := sum_wrap q k (by omega)
        rw [show (q + k) % 18446744073709551616 = (shAt q tx k).q from rfl] at hsw
        obtain ⟨s, hs⟩ : ∃ s, shAt q tx k = s := ⟨_, rfl⟩
        rw [hs] at t1 hsl hsq hlb hsw hck
        obtain ⟨c10, c11, c12⟩ := t1
        obtain ⟨hsw1, hsw2⟩ := hsw
        have hts : cs.take (k + 1) = cs.take k ++ [s] := by rw [List.take_succ_eq_append_getElem h1, hke, hs]
        have hrow : rowS (cs.take (k + 1)) = rowS (cs.take k) ++ (cells3 s).toList := by rw [hts, rowS_snoc]
        have HRow := Lib.hid hrow
        have HCK := Lib.hid hck
        have hq1 : k * 3 = p1 := by omega
        have hss : (⟨s.t.toArray⟩ : ByteArray).size = s.t.length := by show s.t.toArray.size = _; simp
        have hput := put_own s.q s.last ⟨s.t.toArray⟩ wr hsq (by rw [hss]; exact hsl) (HT.out.kp (K1.out.trans hkr) (fun e => e))
        rw [show secL s.q s.last (tb ⟨s.t.toArray⟩) = secS s from rfl] at hput
        have hlen := Lib.hid (show (secS s).length = 512 from secL_length _ _ _ hsl)
        have htk := Lib.hid (show takeV (secS s) = .tuple #[.agg #[.int .u64 s.q, .bool s.last, .string ⟨s.t.toArray⟩], .int .i64 0] from takeV_some (show takeS (secS s) = some s from takeS_secL _ _ _ hsq hsl))
        have HLB := Lib.hid hlb
        have HSW1 := Lib.hid hsw1
        have HSW2 := Lib.hid hsw2
        clear hss hp1 hs hke hkr hts hrow hck hlb hsw1 hsw2 hsl
        go_wp2_with fail
        refine hput.mono ?_
        clear hput c10 c11 c12
        rintro e w3 ⟨g3, c3, rfl, hc31, hc32, ho3, hg3, hk3⟩
        have K3 := Lib.hid (KR.out.trans hk3)
        have HO3 := Lib.hid ho3
        have HM3 := Lib.hid (own_off' HO.out hk3)
        have HS3 := Lib.hid (HSec.out.kp hk3)
        have hr3 := Rd.of_own (l := secS s) (n := 512) ho3
        have htake := take_any (some ⟨g3, 0, none⟩) c3 512 (secS s) w3 hr3 (HT.out.kp (K1.out.trans K3.out) (fun e => e)) hlen.out
        rw [htk.out] at htake
        clear ho3 hk3 hr3
        go_wp2_with fail
        refine htake.mono ?_
        clear htake
        rintro e w4 ⟨rfl, hk4⟩
        have B5 := Lib.hid (Box.new w4 30 #[.int .u64 s.q, .bool s.last, .string ⟨s.t.toArray⟩])
        have K5 := Lib.hid ((K3.out.trans hk4).alloc (.cells #[.int .u64 s.q, .bool s.last, .string ⟨s.t.toArray⟩] 30))
        have HO5 := Lib.hid ((own_off' HO3.out hk4).alloc (.cells #[.int .u64 s.q, .bool s.last, .string ⟨s.t.toArray⟩] 30))
        have HM5 := Lib.hid ((own_off' HM3.out hk4).alloc (.cells #[.int .u64 s.q, .bool s.last, .string ⟨s.t.toArray⟩] 30))
        have HS5 := Lib.hid ((HS3.out.kp hk4).kp ((Kp.refl _ w4).alloc (.cells #[.int .u64 s.q, .bool s.last, .string ⟨s.t.toArray⟩] 30)))
        clear hk4
        have hsw1 := HSW1.out
        have hsw2 := HSW2.out
        have hlb := HLB.out
        obtain ⟨vals, hv1, hv2⟩ := HS5.out
        obtain ⟨A5, a5, rfl⟩ := own_shape3 HM5.out
        obtain ⟨A6, a6, rfl⟩ := own_shape3 hv1
        have HV1 := Lib.hid hv1
        have HV2 := Lib.hid hv2
        have hws5 := K5.out.size
        have hgw3 : w1.heap.size ≤ g3 := Nat.le_trans hws hg3
        clear hv1 hv2
        go_upto_region 13 with fail
        clear hsw1 hsw2 hlb
        generalize w4.alloc (.cells #[.int .u64 s.q, .bool s.last, .string ⟨s.t.toArray⟩] 30) = w5 at *
        generalize w4.heap.size = g5 at *
        have c0 := B5.out.cell 0
        have c1' := B5.out.cell 1
        have c2 := B5.out.cell 2
        simp at c0 c1' c2
        have hn3 := Lib.hid (new3 w5 s 30)
        have hone := Lib.hid (one3 s)
        go_upto_region 14 with (at_builtin; go_must (refine wpList_append_own _ rfl (.tmp 85) (.tmp 87) 39 rfl w1.heap.size 30 i0 _ 3 32 Tryd.underlying39 hi0 hz0 hz1 hz2 rfl (by decide) _ k _ rfl (HM5.out.alloc _) ⟨w5.heap.size, 0, none⟩ 1 1 [.int .u64 s.q, .bool s.last, .string ⟨s.t.toArray⟩] rfl rfl hn3.out hone.out (by unfold maxLen; omega) (by omega) (by simp; omega) ?_; intro v' w6 hown2 hgrow2 _; obtain ⟨A', c', rfl⟩ := own_shape3 hown2; have HR6 := Lib.hid hown2; have HG6 := Lib.hid hgrow2; clear hown2 hgrow2))
        have KA := Lib.hid (K5.out.alloc (.cells #[.int .u64 s.q, .bool s.last, .string ⟨s.t.toArray⟩] 30))
        have hw5a := KA.out.size
        have K6 := Lib.hid (KA.out.grown HG6.out (fun j e => .inl ((HM5.out.lt j e).1)))
        have HRk := Lib.hid (show w6.ownsRow w1.heap.size 30 3 (.slice A' (k + 1) c') (k + 1) (rowS (cs.take (k + 1))) by rw [HRow.out]; exact HR6.out)
        have HS6 := Lib.hid (((HS5.out.kp ((Kp.refl _ w5).alloc (.cells #[.int .u64 s.q, .bool s.last, .string ⟨s.t.toArray⟩] 30)))).grown (HM5.out.alloc (.cells #[.int .u64 s.q, .bool s.last, .string ⟨s.t.toArray⟩] 30)) (by decide) (by decide) HG6.out)
        have HO6 := Lib.hid ((HO5.out.alloc (.cells #[.int .u64 s.q, .bool s.last, .string ⟨s.t.toArray⟩] 30)).kept HG6.out (own_own (HO5.out.alloc _) (HM5.out.alloc (.cells #[.int .u64 s.q, .bool s.last, .string ⟨s.t.toArray⟩] 30)) (by decide)))
        clear c0 c1' c2 hn3 hone KA HS5 HO5 HV1 HV2 B5
        obtain ⟨vs, hv1, hv2⟩ := HS6.out
        have HV1 := Lib.hid hv1
        have HV2 := Lib.hid hv2
        have hws6 := K6.out.size
        have hnb : ∀ (j : Nat) (u : Value), [Value.slice (some ⟨g3, 0, none⟩) 512 c3][j]? = some u → (w6.alloc (.cells #[.slice (some ⟨g3, 0, none⟩) 512 c3] 26)).cell? ((⟨w6.heap.size, 0, none⟩ : Addr).add j) = some u := by
          intro j u hu
          have e : (⟨w6.heap.size, 0, none⟩ : Addr).add j = ⟨w6.heap.size, j, none⟩ := by unfold Addr.add; split <;> simp_all
          rw [e, (Box.new w6 26 _).cell]
          simpa using hu
        have HNB := Lib.hid hnb
        clear hv1 hv2 hnb
        go_wp2_with (at_builtin; go_must (refine wpList_append_own _ rfl (.tmp 89) (.tmp 91) 48 rfl w1.heap.size 26 j0 _ 1 24 Tryd.underlying48 hj0 hy0 hy1 hy2 rfl (by decide) _ k _ rfl (HV1.out.alloc _) ⟨w6.heap.size, 0, none⟩ 1 1 [.slice (some ⟨g3, 0, none⟩) 512 c3] rfl rfl HNB.out (by intro u hu; simp only [List.mem_cons, List.not_mem_nil, or_false] at hu; subst hu; rfl) (by unfold maxLen; omega) (by omega) (by simp; omega) ?_; intro v' w7 hown2 hgrow2 _; obtain ⟨A'', c'', rfl⟩ := own_shape3 hown2; have HR7 := Lib.hid hown2; have HG7 := Lib.hid hgrow2; clear hown2 hgrow2))
        have hk6a := (Kp.refl (fun _ => False) w6).alloc (.cells #[.slice (some ⟨g3, 0, none⟩) 512 c3] 26)
        have hK7 : Kp (fun _ => False) w1 w7 := (K6.out.trans hk6a).grown HG7.out (fun j e => .inl ((HV1.out.lt j e).1))
        have hM7 := (own_off' HRk.out hk6a).kept HG7.out (own_own (own_off' HRk.out hk6a) (own_off' HV1.out hk6a) (by decide))
        go_roundw
        case rel =>
          refine ⟨k + 1, by omega, by go_num, hM7, ⟨_, HR7.out, fun j s' hj hs' => ?_⟩, hK7⟩
          have hvl : vs.length = k := by have := HV1.out.1; omega
          rcases Nat.lt_or_ge j k with hlt2 | hge
          · obtain ⟨g, c, a1, a2, a3, a4, a5⟩ := HV2.out j s' hlt2 hs'
            exact ⟨g, c, by rw [List.getElem?_append_left (by omega)]; exact a1, a2, a3, a4, (own_off' a5 hk6a).kept HG7.out (own_own (own_off' a5 hk6a) (own_off' HV1.out hk6a) (by decide))⟩
          · obtain rfl : j = k := by omega
            rw [HCK.out] at hs'
            cases hs'
            exact ⟨g3, c3, by rw [List.getElem?_append_right (by omega), hvl, Nat.sub_self]; rfl, hc31, hc32, hgw3, (own_off' HO6.out hk6a).kept HG7.out (own_own (own_off' HO6.out hk6a) (own_off' HV1.out hk6a) (by decide))⟩
        case measure => simp [intOf]; omega
      · have htk : cs.take k = cs := List.take_of_length_le (by rw [← HCS.out, cutL_length, HM.out]; omega)
        have ho := HO.out
        rw [htk] at ho
        obtain ⟨A5, a5, rfl⟩ := own_shape3 ho
        obtain ⟨gm, rfl, _, hka5⟩ := own_addr ho (by omega)
        obtain ⟨vals, hv1, hv2⟩ := HSec.out
        obtain ⟨A6, a6, rfl⟩ := own_shape3 hv1
        obtain ⟨gs, rfl, _, _⟩ := own_addr hv1 (by omega)
        have hkm : k = m := by omega
        have HKM := Lib.hid hkm
        have hcl := Lib.hid (show cs.length = k by rw [← HCS.out, cutL_length, HM.out, hkm])
        have hcq : ∀ s ∈ cs, s.q < 18446744073709551616 := by
          intro s hs
          rw [← HCS.out] at hs
          simp only [cutL, List.mem_map] at hs
          obtain ⟨i, _, rfl⟩ := hs
          exact shAt_lt _ _ _
        have HCQ := Lib.hid hcq
        have hjs := Lib.hid (show joinS cs = some tx by rw [← HCS.out]; exact joinS_cutL q tx hq)
        obtain ⟨k1, hk1e⟩ : ∃ k1, k1 + 1 = k := ⟨k - 1, by omega⟩
        have hjn := Lib.hid (show joinS (cs.take k1) = none by rw [← HCS.out]; exact joinS_short q tx k1 (by rw [HM.out]; omega))
        have hk1 : (k : Int) - 1 = (k1 : Int) := by omega
        have hk1a : k1 ≤ a5 := by omega
        have hk1b : ((k1 : Nat) : Int) ≤ (a5 : Int) := by omega
        have hk0 : ((k : Int) == 0) = false := by simp; omega
        obtain ⟨j, hj⟩ : ∃ j, wh % k = j := ⟨_, rfl⟩
        have hjk : j < k := by rw [← hj]; exact Nat.mod_lt _ (by omega)
        have hjm : (wh : Int) % (k : Int) = (j : Int) := by rw [← hj]; rfl
        have hjt : ((wh : Int)).tmod (k : Int) = (j : Int) := by rw [← hj]; exact (Int.ofNat_tmod wh k).symm
        have hjs2 : j < cs.length := by rw [hcl.out]; exact hjk
        obtain ⟨gb, cb, hvj, hcb1, hcb2, hgb, hsecj⟩ := hv2 j cs[j] hjk (List.getElem?_eq_getElem hjs2)
        obtain ⟨s, hs⟩ : ∃ s, cs[j] = s := ⟨_, rfl⟩
        rw [hs] at hsecj
        have hsT := Lib.hid (show takeS (secS s) = some s by
          have hq' : s.q < 18446744073709551616 := by rw [← hs]; exact HCQ.out _ (List.getElem_mem hjs2)
          have ht' : s.t.length ≤ 497 := by
            have h := joinS_le hjs.out cs[j] (List.getElem_mem hjs2)
            rw [hs] at h
            exact h
          exact takeS_secL _ _ _ hq' ht')
        have hsL := Lib.hid (show (secS s).length = 512 from (takeS_some hsT.out).1)
        obtain ⟨l0, hl0⟩ : ∃ l0, secS s = l0 := ⟨_, rfl⟩
        rw [hl0] at hsecj hsT hsL
        have HM1 := Lib.hid (RdS.of_own ho)
        have HV := Lib.hid hv1
        have HVJ := Lib.hid hvj
        have HSJ := Lib.hid hsecj
        have KW := Lib.hid (K1.out.trans hkr)
        have hgbw := Nat.le_trans hb1.out hgb
        clear ho hv1 hv2 hvj hsecj hl0 hs hkm hcq htk HO HSec hkr KR R1 hj
        go_wp2_with fail
        have hjo := join_any (some ⟨gm, 0, none⟩) a5 k cs wr HM1.out hcl.out (by omega) HCQ.out
        rw [joinV_some hjs.out] at hjo
        refine hjo.mono ?_
        clear hjo
        rintro e w3 ⟨rfl, hk3⟩
        have K3 := Lib.hid (KW.out.trans hk3)
        have HM3 := Lib.hid (HM1.out.kp hk3 (fun _ _ e => e))
        have HV3 := Lib.hid (own_off' HV.out hk3)
        have HS3 := Lib.hid (own_off' HSJ.out hk3)
        clear hk3
        go_wp2_with fail
        have hjo := join_any (some ⟨gm, 0, none⟩) a5 k1 (cs.take k1) w3 (HM3.out.take' k1) (by rw [List.length_take, hcl.out]; omega) (by omega) (fun s hs => HCQ.out s (List.mem_of_mem_take hs))
        rw [joinV_none hjn.out] at hjo
        refine hjo.mono ?_
        clear hjo
        rintro e w4 ⟨rfl, hk4⟩
        have K4 := Lib.hid (K3.out.trans hk4)
        have HS4 := Lib.hid (own_off' HS3.out hk4)
        have hcj : w4.cell? ⟨gs, j, none⟩ = some (.slice (some ⟨gb, 0, none⟩) 512 cb) := by
          rw [(own_off' HV3.out hk4).cellAt _ (by omega), HVJ.out]
        clear hk4
        go_wp2_with fail
        clear hcj hjm hjt hk1 hk1a hk1b hk0
        obtain ⟨T, hT⟩ : ∃ T, T = at_ % 4096 := ⟨_, rfl⟩
        have HTT := Lib.hid hT
        have hTlt : T < 4096 := by rw [hT]; exact Nat.mod_lt _ (by decide)
        have hTm : (at_ : Int) % 4096 = (T : Int) := by rw [hT, Int.natCast_emod]; rfl
        clear hT
        go_loopw [24, 25] (fun s24 s25 wr2 => ∃ (i : Nat) (o : List UInt8) (x : Nat), i ≤ 32 ∧ s25 = .int .i64 i ∧ s24 = .bool (decide (x ≠ 0)) ∧ o.length = 512 ∧ x < 2 ^ i ∧ leN o = leN l0 ^^^ x * 2 ^ T ∧ wr2.ownsRow 0 5 1 (Value.slice (some ⟨gb, 0, none⟩) 512 cb) 512 (bcs o) ∧ Kp (fun _ => False) w wr2) (fun _ s25 _ => 32 - (intOf s25).toNat)
        case atStart => exact ⟨0, l0, 0, by omega, rfl, rfl, hsL.out, by omega, by simp, HS4.out, K4.out⟩
        case round =>
          obtain ⟨i, o, x, hi, rfl, rfl, hol, hx, hle, hrow, hkw⟩ := hrel
          have Hol := Lib.hid hol
          have Hx := Lib.hid hx
          have Hle := Lib.hid hle
          have Hrow := Lib.hid hrow
          have Hkw := Lib.hid hkw
          clear hol hx hle hrow hkw
          by_cases hi32 : i < 32
          · obtain ⟨K, hK⟩ : ∃ K, T + i = K := ⟨_, rfl⟩
            have hsum : (T : Int) + (i : Int) = (K : Int) := by omega
            have HK := Lib.hid hK
            have hKb : K < 4128 := by omega
            clear hK
            by_cases hb : K < 4096
            · have hbd : decide ((K : Int) < 4096) = true := by simp; omega
              by_cases hbit : ch / 2 ^ i % 2 = 1
              · have hand : bits .and .u32 ((ch : Int) / 2 ^ i) 1 = 1 := by
                  have := u32_and_nat (ch / 2 ^ i) 1 (Nat.lt_of_le_of_lt (Nat.div_le_self _ _) hch) (by decide)
                  rw [Nat.and_one_is_mod, hbit, Int.natCast_ediv, Int.natCast_pow] at this
                  exact this
                have hKo : K / 8 < o.length := by rw [Hol.out]; omega
                have hcell : wr.cell? ⟨gb, K / 8, none⟩ = some (.int .u8 (o[K / 8]).toNat) := by
                  rw [Hrow.out.cellAt _ (by omega), bcs_get, List.getElem?_eq_getElem hKo]; rfl
                have hfrz : wr.frozen? ⟨gb, K / 8, none⟩ = false := Hrow.out.frozenAt _
                have hset := leN_set o (K / 8) (K % 8) hKo (Nat.mod_lt _ (by omega))
                have Hset := Lib.hid hset
                have HKo := Lib.hid hKo
                have HX2 := Lib.hid (show Value.bool true = .bool (decide ((x ^^^ 2 ^ i) ≠ 0)) by rw [decide_eq_true (xor_ne x i Hx.out)])
                generalize hou : o[K / 8] = u at *
                have hu := u.toNat_lt
                have Hou := Lib.hid hou
                clear hou hset hKo
                go_wp2_with fail
                go_region
                rw [store_byte u (K % 8)]
                have hst := Hrow.out.stored (K / 8) (.int .u8 ((u ^^^ UInt8.ofNat (2 ^ (K % 8))).toNat : Nat))
                have hrow' : ((wr.setCell ⟨gb, K / 8, none⟩ (.int .u8 ((u ^^^ UInt8.ofNat (2 ^ (K % 8))).toNat : Nat))).drew).ownsRow 0 5 1 (Value.slice (some ⟨gb, 0, none⟩) 512 cb) 512 (bcs (o.set (K / 8) (u ^^^ UInt8.ofNat (2 ^ (K % 8))))) := by
                  rw [bcs_set]
                  exact hst.1
                have hk' : Kp (fun _ => False) w ((wr.setCell ⟨gb, K / 8, none⟩ (.int .u8 ((u ^^^ UInt8.ofNat (2 ^ (K % 8))).toNat : Nat))).drew) := (Hkw.out.grown hst.2 (fun q hq => .inl (by cases hq; exact hgbw))).drew
                have Hrow' := Lib.hid hrow'
                have Hk' := Lib.hid hk'
                generalize (wr.setCell ⟨gb, K / 8, none⟩ (.int .u8 ((u ^^^ UInt8.ofNat (2 ^ (K % 8))).toNat : Nat))).drew = wq at *
                clear hst hrow' hk' hcell hfrz Hrow Hkw
                go_wp2_with fail
                go_roundw
                case rel =>
                  refine ⟨i + 1, o.set (K / 8) (u ^^^ UInt8.ofNat (2 ^ (K % 8))), x ^^^ 2 ^ i, by omega, by go_num, HX2.out, by rw [List.length_set, Hol.out], Nat.xor_lt_two_pow (Nat.lt_trans Hx.out (Nat.pow_lt_pow_right (by omega) (by omega))) (Nat.pow_lt_pow_right (by omega) (by omega)), ?_, Hrow'.out, Hk'.out⟩
                  rw [Hset.out, Hle.out, Nat.xor_assoc]
                  congr 1
                  rw [show 8 * (K / 8) + K % 8 = i + T by have := HK.out; omega]
                  exact xor_shift x i T
                case measure => simp [intOf]; omega
              · have hand : bits .and .u32 ((ch : Int) / 2 ^ i) 1 = 0 := by
                  have := u32_and_nat (ch / 2 ^ i) 1 (Nat.lt_of_le_of_lt (Nat.div_le_self _ _) hch) (by decide)
                  have e0 : ch / 2 ^ i % 2 = 0 := by omega
                  rw [Nat.and_one_is_mod, e0, Int.natCast_ediv, Int.natCast_pow] at this
                  exact this
                go_wp2_with fail
                go_roundw
                case rel => exact ⟨i + 1, o, x, by omega, by go_num, rfl, Hol.out, Nat.lt_trans Hx.out (Nat.pow_lt_pow_right (by omega) (by omega)), Hle.out, Hrow.out, Hkw.out⟩
                case measure => simp [intOf]; omega
            · have hbd : decide ((K : Int) < 4096) = false := by simp; omega
              go_wp2_with fail
              go_roundw
              case rel => exact ⟨i + 1, o, x, by omega, by go_num, rfl, Hol.out, Nat.lt_trans Hx.out (Nat.pow_lt_pow_right (by omega) (by omega)), Hle.out, Hrow.out, Hkw.out⟩
              case measure => simp [intOf]; omega
          · have hro : Rd wr (some ⟨gb, 0, none⟩) o := by
              have := Hrow.out
              exact Rd.of_own this
            have htake := take_any (some ⟨gb, 0, none⟩) cb 512 o wr hro (HT.out.kp Hkw.out (fun e => e)) Hol.out
            have hx32 : x < 4294967296 := Nat.lt_of_lt_of_le Hx.out (by
              have : i = 32 := by omega
              rw [this]
              decide)
            have hres : (decide (x ≠ 0) = false ∧ ∃ z : Sh, takeV o = .tuple #[.agg #[.int .u64 z.q, .bool z.last, .string ⟨z.t.toArray⟩], .int .i64 0]) ∨ (decide (x ≠ 0) = true ∧ ∃ z : Sh, takeV o = .tuple #[.agg #[.int .u64 z.q, .bool z.last, .string ⟨z.t.toArray⟩], .int .i64 3]) := by
              by_cases hx0 : x = 0
              · left
                have e : o = l0 := by
                  have h := Hle.out
                  rw [hx0, Nat.zero_mul, Nat.xor_zero] at h
                  exact leN_inj o l0 (by rw [Hol.out, hsL.out]) h
                refine ⟨by simp [hx0], s, ?_⟩
                rw [e]
                exact takeV_some hsT.out
              · right
                have hne : o ≠ l0 := by
                  intro e
                  have h := Hle.out
                  rw [e] at h
                  have h2 : x * 2 ^ T = 0 := by
                    have := congrArg (fun y => leN l0 ^^^ y) h
                    simpa [← Nat.xor_assoc] using this.symm
                  rcases Nat.mul_eq_zero.1 h2 with h3 | h3
                  · exact hx0 h3
                  · exact absurd h3 (Nat.pos_iff_ne_zero.1 (Nat.two_pow_pos T))
                exact ⟨by simp [hx0], ⟨0, false, []⟩, takeV_none (takeS_changed hsT.out (by rw [Hol.out, hsL.out]) T x (by rw [hsL.out]; omega) hx32 Hle.out hne)⟩
            clear hro hx32
            rcases hres with ⟨hd, z, hz⟩ | ⟨hd, z, hz⟩
            all_goals
              have htake' := htake
              rw [hz] at htake'
              rw [hd]
              have HTK := Lib.hid htake'
              clear htake htake' hz hd
              go_wp2_with fail
              refine HTK.out.mono ?_
              clear HTK
              rintro e w6 ⟨rfl, hk6⟩
              have K7 := Lib.hid ((Hkw.out.trans hk6).alloc (.cells #[.int .u64 z.q, .bool z.last, .string ⟨z.t.toArray⟩] 30))
              clear hk6
              go_wp2_with fail
              refine (wakes_true _ (HT.out.kp K7.out (fun e => e))).mono ?_
              rintro e w8 ⟨rfl, hk8⟩
              have K8 := Lib.hid (K7.out.trans hk8)
              clear hk8
              go_wp2_with fail
              go_ret
              exact ⟨rfl, K8.out⟩
end Go.Proofs.YtdacjhgjaneeeaaDoor
