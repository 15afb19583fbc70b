/- The texts of a log, in the document's own words. Conditions: the disk's own; 1 to 65,535 sectors. -/
import Derived.Test.YtfcljcikajaedaaGreatDoorMg3
import Derived.Test.YtfcljcikajaedaaGreatDoorMg31
import Derived.Test.YtfcljcikajaedaaGreatDoorMg29
namespace Go.Proofs.YtfcljcikajaedaaGreatDoor
open Go.RowKit

/-- The sheet of a number. -/
theorem rsheet_none {d : Dm} (ok : d.ok) (n q : Nat) (h1 : 1 ≤ n) (hn : n < 65536) (hnl : 2 + n ≤ d.on.length) (hF : sheetF (fun i => d.nowAt i) n q = none) : ∃ (q2 : Nat) (bl : Bool) (st : ByteArray) (b : Bool),
    (∀ (w : World) (vo vw : Value), Rf w vo vw d → Calls Tryz.prog 87 #[.agg (rcs d vo vw), .int .i64 ((2 + q % n : Nat) : Int), .int .i64 n] w fun e w' => e = .returned (.tuple #[.agg #[.int .u64 q2, .bool bl, .string st], .bool b]) ∧ Kp (fun _ => False) w w') ∧ (b = true → q2 ≠ q) := by
  have hm := Nat.mod_lt q (by omega : 0 < n)
  have hlen := ok.few
  rcases hx : takeS (d.nowAt (2 + q % n)) with _ | s
  · exact ⟨0, false, ⟨#[]⟩, false, fun w vo vw h => rsheet_bad h ok (2 + q % n) n (by omega) 0 false ⟨#[]⟩ 3 rfl (Lib.hid (takeV_none hx)), fun h => by cases h⟩
  · have hq := (takeS_lt hx).1
    refine ⟨s.q, s.last, ⟨s.t.toArray⟩, decide (2 + s.q % n = 2 + q % n), fun w vo vw h => rsheet_good h ok (2 + q % n) n (by omega) (by omega) h1 hn s.q hq s.last ⟨s.t.toArray⟩ (Lib.hid (takeV_some hx)), fun _ e => ?_⟩
    unfold sheetF at hF
    rw [hx] at hF
    simp only at hF
    rw [if_pos e] at hF
    cases hF
theorem rsheet_some {d : Dm} (ok : d.ok) (n q : Nat) (s : Sh) (h1 : 1 ≤ n) (hn : n < 65536) (hnl : 2 + n ≤ d.on.length) (hF : sheetF (fun i => d.nowAt i) n q = some s) (w : World) (vo vw : Value) (h : Rf w vo vw d) :
    Calls Tryz.prog 87 #[.agg (rcs d vo vw), .int .i64 ((2 + q % n : Nat) : Int), .int .i64 n] w fun e w' => e = .returned (.tuple #[.agg #[.int .u64 q, .bool s.last, .string ⟨s.t.toArray⟩], .bool true]) ∧ Kp (fun _ => False) w w' := by
  have hm := Nat.mod_lt q (by omega : 0 < n)
  have hlen := ok.few
  obtain ⟨e, hx⟩ := sheetF_q hF
  have hq := (takeS_lt hx).1
  have := rsheet_good h ok (2 + q % n) n (by omega) (by omega) h1 hn s.q hq s.last ⟨s.t.toArray⟩ (Lib.hid (takeV_some hx))
  rw [e, decide_eq_true rfl] at this
  exact this
theorem ownsRow_from {w : World} {base base' : Nat} {e : TypeId} {size n : Nat} {v : Value} {xs : List Value} (h : w.ownsRow base e size v n xs) (hb : base' ≤ base) : w.ownsRow base' e size v n xs := by
  refine ⟨h.1, ?_⟩
  rcases h.2 with h2 | ⟨g, cap, cur, hv, hg, r⟩
  · exact .inl h2
  · exact .inr ⟨g, cap, cur, hv, Nat.le_trans hb hg, r⟩
/-- Where the loop stands. -/
structure RtR (w : World) (ss : List Sh) (total : List (List UInt8)) (j : Nat) (acc : List (List UInt8)) (t : List UInt8) (v : Value) (wx : World) : Prop where
  sum : acc ++ parse t (ss.drop j) = total
  row : wx.ownsRow w.heap.size 9 1 v acc.length (strs acc)
  kp : Kp (fun _ => False) w wx
  few : t.length ≤ 497 * j
  short : acc.length ≤ j
set_option maxRecDepth 100000 in
set_option maxHeartbeats 8000000 in
theorem rtexts_any {w : World} {vo vw : Value} {d : Dm} (h : Rf w vo vw d) (ok : d.ok) (hd : Hd) (h1 : 1 ≤ hd.n) (hn : hd.n < 65536) (hnl : 2 + hd.n ≤ d.on.length) (hf : hd.f + 65537 < 18446744073709551616) :
    Calls Tryz.prog 83 #[.agg (rcs d vo vw), .agg (hcsR hd)] w fun e w' => ∃ v, e = .returned v ∧ w'.ownsRow w.heap.size 9 1 v (textsF (fun i => d.nowAt i) hd.n hd.f).length (strs (textsF (fun i => d.nowAt i) hd.n hd.f)) ∧ Kp (fun _ => False) w w' := by
  obtain ⟨i0, hi0, hz0, hz1, hz2⟩ := strInf
  obtain ⟨ss, hss⟩ : ∃ ss, runF (sheetF (fun i => d.nowAt i) hd.n) (hd.n + 1) hd.f = ss := ⟨_, rfl⟩
  have hlen : ss.length ≤ hd.n := by rw [← hss]; exact runF_log _ hd.n hd.f h1
  have hget : ∀ i s, ss[i]? = some s → sheetF (fun i => d.nowAt i) hd.n (hd.f + i) = some s := fun i s hi => runF_get _ _ _ _ _ (by rw [hss]; exact hi)
  have hend : sheetF (fun i => d.nowAt i) hd.n (hd.f + ss.length) = none := by
    have := runF_end (sheetF (fun i => d.nowAt i) hd.n) (hd.n + 1) hd.f (by rw [hss]; omega)
    rwa [hss] at this
  obtain ⟨total, htot⟩ : ∃ t, textsF (fun i => d.nowAt i) hd.n hd.f = t := ⟨_, rfl⟩
  have hpt : parse [] ss = total := by rw [← htot, textsF, hss]
  rw [htot]
  have HNO := Lib.hid (fun q hF => rsheet_none ok hd.n q h1 hn hnl hF)
  have HSO := Lib.hid (fun q s hF => rsheet_some ok hd.n q s h1 hn hnl hF)
  have HGET := Lib.hid hget
  have HEND := Lib.hid hend
  have HPT := Lib.hid hpt
  have HFF := Lib.hid hf
  obtain ⟨W, hW, hb0, hb1, hkw⟩ : ∃ W, W = (w.alloc (.cells (rcs d vo vw) 37)).alloc (.cells (hcsR hd) 40) ∧ Box W w.heap.size 37 (rcs d vo vw) ∧ Box W (w.heap.size + 1) 40 (hcsR hd) ∧ Kp (fun _ => False) w W := by
    refine ⟨_, rfl, (Box.new w _ _).alloc _, ?_, ((Kp.refl _ w).alloc _).alloc _⟩
    have := Box.new (w.alloc (.cells (rcs d vo vw) 37)) 40 (hcsR hd)
    rwa [World.size_alloc] at this
  have HW := Lib.hid hW
  have B0 := Lib.hid hb0
  have B1 := Lib.hid hb1
  have KW := Lib.hid hkw
  have H0 := Lib.hid (h.still hkw)
  clear hss hget hend htot hpt hf hW hb0 hb1 hkw h ok hnl
  obtain ⟨n, hne⟩ : ∃ n, hd.n = n := ⟨_, rfl⟩
  obtain ⟨f, hfe⟩ : ∃ f, hd.f = f := ⟨_, rfl⟩
  have y1 : W.cell? ⟨w.heap.size + 1, 1, none⟩ = some (.int .u64 f) := by rw [← hfe]; exact B1.out.cell 1
  have HN2 : Hid (W.cell? ⟨w.heap.size + 1, 2, none⟩ = some (.int .i64 n)) := Lib.hid (by rw [← hne]; exact B1.out.cell 2)
  have HLTW := Lib.hid B1.out.lt
  rw [hne] at h1 hn hlen HNO HSO HGET HEND
  rw [hfe] at HGET HEND HFF
  clear hne hfe
  go_enter Tryz.func83, Tryz.ntmps83
  go_upto_region 1 with fail
  rw [← HW.out]
  go_wp2_with fail
  clear y1
  go_loopw [5, 6, 7] (fun s5 s6 s7 wr => ∃ (j : Nat) (acc : List (List UInt8)) (t : List UInt8), j ≤ ss.length ∧ s7 = .int .u64 ((f + j : Nat) : Int) ∧ s6 = .string ⟨t.toArray⟩ ∧ RtR W ss total j acc t s5 wr)
    (fun _ _ s7 _ => f + ss.length - (intOf s7).toNat)
  case atStart => exact ⟨0, [], [], Nat.zero_le _, rfl, rfl, ⟨HPT.out, World.ownsRow_nil _ _ _ _, Kp.refl _ _, by simp, Nat.zero_le _⟩⟩
  case round =>
    obtain ⟨j, acc, t, hj, rfl, rfl, hI⟩ := hrel
    have HI := Lib.hid hI
    have B0r := Lib.hid (B0.out.kp hI.kp (fun e => e))
    have H0r := Lib.hid (H0.out.still hI.kp)
    have HN2 : Hid (∀ v, Kp (fun _ => False) wr v → v.cell? ⟨w.heap.size + 1, 2, none⟩ = some (.int .i64 n)) := Lib.hid fun v hv =>
      ((hI.kp.trans hv).cell (p := ⟨w.heap.size + 1, 2, none⟩) HLTW.out (fun e => e)).trans HN2.out
    clear hI
    obtain ⟨q, hq⟩ : ∃ q, f + j = q := ⟨_, rfl⟩
    rw [hq]
    have HQ := Lib.hid hq
    have hq64 : q + 1 < 18446744073709551616 := by have := HFF.out; omega
    have hm := Nat.mod_lt q (by omega : 0 < n)
    have hrm : (q : Int).tmod (n : Int) = ((q % n : Nat) : Int) := by rw [Int.tmod_eq_emod_of_nonneg (by omega)]; exact (Int.natCast_emod q n).symm
    have hrm2 : (q : Int) % (n : Int) = ((q % n : Nat) : Int) := (Int.natCast_emod q n).symm
    obtain ⟨m, hme⟩ : ∃ m, q % n = m := ⟨_, rfl⟩
    have HNOq := Lib.hid (HNO.out q)
    have HSOq := Lib.hid (fun s hF => HSO.out q s hF)
    rw [hme] at hm hrm hrm2 HNOq HSOq
    have hcn : IntKind.u64.wrap (n : Int) = (n : Int) := by rw [IntKind.wrap_u64]; omega
    have hwm : IntKind.u64.wrap (m : Int) = (m : Int) := by rw [IntKind.wrap_u64]; omega
    have hwi : IntKind.i64.wrap (m : Int) = (m : Int) := IntWalk.i64_in _ (by omega)
    obtain ⟨p, hp⟩ : ∃ p : Nat, 2 + m = p := ⟨_, rfl⟩
    have hadd : IntKind.i64.wrap (p : Int) = (p : Int) := IntWalk.i64_in _ (by omega)
    have hadd2 : (2 : Int) + (m : Int) = (p : Int) := by omega
    have hn0 : ((n : Int) == 0) = false := by simp; omega
    have hn1 : ¬ n = 0 := by omega
    rw [hp] at HNOq HSOq
    have HQ64 := Lib.hid hq64
    have HJ := Lib.hid hj
    clear hme hp hm hq hq64 hj
    rcases hF : sheetF (fun i => d.nowAt i) n q with _ | s
    · obtain ⟨q2, bl, st, b, hc, hb⟩ := HNOq.out hF
      have HC := Lib.hid hc
      have HB := Lib.hid hb
      have hjl : j = ss.length := by
        rcases Nat.lt_or_eq_of_le HJ.out with hlt | he
        · have := HGET.out j ss[j] (List.getElem?_eq_getElem hlt)
          rw [HQ.out, hF] at this; cases this
        · exact he
      have HT := Lib.hid (show acc = total by
        have := HI.out.sum
        rw [hjl, List.drop_length] at this
        simpa [parse] using this)
      clear hc hb hF hjl
      go_upto_region 5 with fail
      try simp only [Act.put]
      go_cut [8, 9] (fun p8 p9 wx => ∃ g8 : Nat, p8 = .pointer (some ⟨g8, 0, none⟩) ∧ p9 = .bool b ∧ Box wx g8 102 #[.int .u64 q2, .bool bl, .string st] ∧ Kp (fun _ => False) wr wx)
      case first =>
        refine wp_region_held_drew (S := fun v => Kp (fun _ => False) wr v) (by kernel_rfl) ((Kp.refl _ wr).drew) (fun hHeld => ?_)
        refine wpAnyH_take (i := 0) (oi := { dst := some 15, op := Op.load 37 (Operand.tmp 2), type := 37, pos := "ref.go:85", after := #[], guard := none }) (v := _) rfl (by kernel_rfl) (by kernel_rfl) (by kernel_rfl) (fun _ _ _ h => h) (yieldsIf_load_mid (by rfl) _ _ rfl w.heap.size 0 rfl (rcs d vo vw).toList _ (fun v hv => Box.range' (L := (rcs d vo vw).toList) (B0r.out.kp hv (fun e => e))) Tryz.underlying37 rfl infoRef) (by assumption) ?_
        try simp only [Act.put, List.setIfInBounds_toArray, List.set_cons_zero, List.set_cons_succ]
        refine tk 1 (h := ?_)
        refine tk 2 (h := ?_)
        refine tk 3 (v := ?_) (hy := ?_) (h := ?_)
        rotate_left
        · intro v hSw
          have y := HN2.out v hSw
          try dsimp only at hSw
          go_simp
          with_reducible rfl
        refine tk 4 (h := ?_)
        refine tk 5 (h := ?_)
        refine tk 6 (h := ?_)
        refine tk 7 (h := ?_)
        refine tk 8 (h := ?_)
        refine tk 9 (v := ?_) (hy := ?_) (h := ?_)
        rotate_left
        · intro v hSw
          have y := HN2.out v hSw
          try dsimp only at hSw
          go_simp
          with_reducible rfl
        refine wpAnyH_ready (rs := [10, 14]) (by kernel_rfl) (by simp) ?_
        refine rdc 10 (h := fun K hK => ?_) (hs := rdc 14 (h := fun K hK => ?_) (hs := AllReadyH.nil))
        · go_simp
          refine (HC.out _ vo vw (H0r.out.still hHeld)).mono ?_
          rintro e w5 ⟨rfl, kc⟩
          go_wp2_with fail
          refine hK.out _ _ (hHeld.trans kc) (fun hHeld1 => ?_)
          clear hK K
          try simp only [Act.put, List.setIfInBounds_toArray, List.set_cons_zero, List.set_cons_succ]
          refine tk 11 (h := ?_)
          refine tk 12 (h := ?_)
          refine tk 13 (h := ?_)
          refine rd 14 (h := fun K hK => ?_)
          go_simp
          have hb6 := Box.new w5 102 #[.int .u64 0, .bool false, .string ⟨#[]⟩]
          obtain ⟨g8, hg8⟩ : ∃ g8, w5.heap.size = g8 := ⟨_, rfl⟩
          rw [hg8] at hb6
          have ka := (Kp.refl (fun _ => False) w5).alloc (.cells #[.int .u64 0, .bool false, .string ⟨#[]⟩] 102)
          have hgw := Lib.hid (show wr.heap.size ≤ g8 by rw [← hg8]; exact (hHeld1).size)
          have HG8 := Lib.hid hg8
          try rw [HG8.out]
          generalize w5.alloc (.cells #[.int .u64 0, .bool false, .string ⟨#[]⟩] 102) = w6 at *
          refine hK.out _ _ ((hHeld1).trans ka) (fun hHeld2 => ?_)
          clear hK K
          try simp only [Act.put, List.setIfInBounds_toArray, List.set_cons_zero, List.set_cons_succ]
          refine rd 15 (h := fun K hK => ?_)
          rw [if_pos (by rfl)]
          refine wp_store_box 102 (.tmp 8) (.tmp 26) rfl g8 [.int .u64 q2, .bool bl, .string st] rfl rfl hb6 rfl info_rsheet (shc_one _ _ _) ?_
          intro w7 hb7 hk7
          have B7 := Lib.hid hb7
          have K7 := Lib.hid ((hHeld2).trans_new hk7 (fun b e => .inl (by have := hgw.out; omega)))
          clear hb7 hk7
          refine hK.out _ _ (K7.out) (fun hHeld3 => ?_)
          clear hK K
          try simp only [Act.put]
          refine tk 16 (h := ?_)
          refine wpAnyH_done (by kernel_rfl) ?_ _
          go_wp2_with fail
          go_meet
          exact ⟨g8, rfl, rfl, B7.out, K7.out⟩
        · go_simp
          have hb6 : Box (wr.alloc (.cells #[.int .u64 0, .bool false, .string ⟨#[]⟩] 102)).drew wr.heap.size 102 #[.int .u64 0, .bool false, .string ⟨#[]⟩] := Box.new wr 102 #[.int .u64 0, .bool false, .string ⟨#[]⟩]
          have ka : Kp (fun _ => False) wr (wr.alloc (.cells #[.int .u64 0, .bool false, .string ⟨#[]⟩] 102)).drew := ((Kp.refl (fun _ => False) wr).alloc (.cells #[.int .u64 0, .bool false, .string ⟨#[]⟩] 102)).drew
          obtain ⟨g8, hg8⟩ : ∃ g8, wr.heap.size = g8 := ⟨_, rfl⟩
          rw [hg8] at hb6
          have hgw := Lib.hid (show wr.heap.size ≤ g8 by omega)
          have HG8 := Lib.hid hg8
          try rw [HG8.out]
          clear hg8
          generalize (wr.alloc (.cells #[.int .u64 0, .bool false, .string ⟨#[]⟩] 102)).drew = w5 at *
          refine hK.out _ _ (ka) (fun hHeld4 => ?_)
          clear hK K
          try simp only [Act.put, List.setIfInBounds_toArray, List.set_cons_zero, List.set_cons_succ]
          refine rd 10 (h := fun K hK => ?_)
          go_simp
          refine (HC.out _ vo vw (H0r.out.still hHeld4)).mono ?_
          rintro e w6 ⟨rfl, kc⟩
          go_wp2_with fail
          refine hK.out _ _ (hHeld4.trans kc) (fun hHeld5 => ?_)
          clear hK K
          try simp only [Act.put, List.setIfInBounds_toArray, List.set_cons_zero, List.set_cons_succ]
          refine tk 11 (h := ?_)
          refine tk 12 (h := ?_)
          refine tk 13 (h := ?_)
          refine rd 15 (h := fun K hK => ?_)
          rw [if_pos (by rfl)]
          refine wp_store_box 102 (.tmp 8) (.tmp 26) rfl g8 [.int .u64 q2, .bool bl, .string st] rfl rfl (hb6.kp kc (fun e => e)) rfl info_rsheet (shc_one _ _ _) ?_
          intro w7 hb7 hk7
          have B7 := Lib.hid hb7
          have K7 := Lib.hid ((hHeld5).trans_new hk7 (fun b e => .inl (by have := hgw.out; omega)))
          clear hb7 hk7
          refine hK.out _ _ (K7.out) (fun hHeld6 => ?_)
          clear hK K
          try simp only [Act.put]
          refine tk 16 (h := ?_)
          refine wpAnyH_done (by kernel_rfl) ?_ _
          go_wp2_with fail
          go_meet
          exact ⟨g8, rfl, rfl, B7.out, K7.out⟩
      case rest =>
        obtain ⟨g8, rfl, rfl, hb8, hk8⟩ := hcut
        have K8 := Lib.hid (HI.out.kp.trans hk8)
        have R8 := Lib.hid (down_kp HI.out.row hk8 (fun k e h => h))
        have c0 := hb8.cell 0
        simp at c0
        clear hb8 hk8
        rcases b with _ | _
        · go_wp2_with fail
          go_ret
          rw [← HT.out]
          exact ⟨_, rfl, ownsRow_from R8.out KW.out.size, KW.out.trans K8.out⟩
        · have hne := HB.out rfl
          have hnb : ((q2 : Int) != (q : Int)) = true := by simp; omega
          clear hne
          go_wp2_with fail
          go_ret
          rw [← HT.out]
          exact ⟨_, rfl, ownsRow_from R8.out KW.out.size, KW.out.trans K8.out⟩
    · have HC := Lib.hid (HSOq.out s hF)
      have hjl : j < ss.length := by
        rcases Nat.lt_or_eq_of_le HJ.out with hlt | he
        · exact hlt
        · have := HEND.out
          rw [← he, HQ.out, hF] at this; cases this
      have hsj : ss[j] = s := by
        have := HGET.out j ss[j] (List.getElem?_eq_getElem hjl)
        rw [HQ.out, hF] at this
        injection this with this
        exact this.symm
      have hst := (takeS_lt (sheetF_q hF).2).2
      have hdr : ss.drop j = s :: ss.drop (j + 1) := by rw [List.drop_eq_getElem_cons hjl, hsj]
      have hsum := HI.out.sum
      rw [hdr] at hsum
      obtain ⟨bl, hbl⟩ : ∃ bl, s.last = bl := ⟨_, rfl⟩
      obtain ⟨st, hst2⟩ : ∃ st : ByteArray, (⟨s.t.toArray⟩ : ByteArray) = st := ⟨_, rfl⟩
      have hcat : (⟨t.toArray⟩ : ByteArray) ++ st = ⟨(t ++ s.t).toArray⟩ := by
        rw [← hst2]
        apply ByteArray.ext
        simp
      have hlen2 := HI.out.few
      have hz5 : st.size ≤ 497 := by rw [← hst2]; show s.t.toArray.size ≤ 497; simpa using hst
      have hz6 : t.length ≤ 32571392 := by omega
      have hz7 : (t.length : Int) + st.size ≤ 33571392 := by omega
      have HSUM : Hid (acc ++ (if bl = true then (t ++ s.t) :: parse [] (ss.drop (j + 1)) else parse (t ++ s.t) (ss.drop (j + 1))) = total) := Lib.hid (by
        rw [← hsum, parse, hbl])
      have HSL := Lib.hid (show (t ++ s.t).length ≤ 497 * (j + 1) by rw [List.length_append]; omega)
      have HJL := Lib.hid hjl
      have hw1 : IntKind.u64.wrap ((q : Int) + 1) = ((q + 1 : Nat) : Int) := by rw [IntKind.wrap_u64]; have := HQ64.out; omega
      obtain ⟨qq, hqq⟩ : ∃ qq, q + 1 = qq := ⟨_, rfl⟩
      rw [hqq] at hw1
      have HQQ := Lib.hid hqq
      obtain ⟨tt, htt⟩ : ∃ tt, t ++ s.t = tt := ⟨_, rfl⟩
      rw [htt] at hcat HSUM HSL
      rw [hbl, hst2] at HC
      clear hF hjl hsj hst hdr hsum hbl hst2 hlen2 hqq htt
      go_upto_region 5 with fail
      try simp only [Act.put]
      go_cut [8, 9] (fun p8 p9 wx => ∃ g8 : Nat, p8 = .pointer (some ⟨g8, 0, none⟩) ∧ p9 = .bool true ∧ Box wx g8 102 #[.int .u64 q, .bool bl, .string st] ∧ Kp (fun _ => False) wr wx)
      case first =>
        refine wp_region_held_drew (S := fun v => Kp (fun _ => False) wr v) (by kernel_rfl) ((Kp.refl _ wr).drew) (fun hHeld => ?_)
        refine wpAnyH_take (i := 0) (oi := { dst := some 15, op := Op.load 37 (Operand.tmp 2), type := 37, pos := "ref.go:85", after := #[], guard := none }) (v := _) rfl (by kernel_rfl) (by kernel_rfl) (by kernel_rfl) (fun _ _ _ h => h) (yieldsIf_load_mid (by rfl) _ _ rfl w.heap.size 0 rfl (rcs d vo vw).toList _ (fun v hv => Box.range' (L := (rcs d vo vw).toList) (B0r.out.kp hv (fun e => e))) Tryz.underlying37 rfl infoRef) (by assumption) ?_
        try simp only [Act.put, List.setIfInBounds_toArray, List.set_cons_zero, List.set_cons_succ]
        refine tk 1 (h := ?_)
        refine tk 2 (h := ?_)
        refine tk 3 (v := ?_) (hy := ?_) (h := ?_)
        rotate_left
        · intro v hSw
          have y := HN2.out v hSw
          try dsimp only at hSw
          go_simp
          with_reducible rfl
        refine tk 4 (h := ?_)
        refine tk 5 (h := ?_)
        refine tk 6 (h := ?_)
        refine tk 7 (h := ?_)
        refine tk 8 (h := ?_)
        refine tk 9 (v := ?_) (hy := ?_) (h := ?_)
        rotate_left
        · intro v hSw
          have y := HN2.out v hSw
          try dsimp only at hSw
          go_simp
          with_reducible rfl
        refine wpAnyH_ready (rs := [10, 14]) (by kernel_rfl) (by simp) ?_
        refine rdc 10 (h := fun K hK => ?_) (hs := rdc 14 (h := fun K hK => ?_) (hs := AllReadyH.nil))
        · go_simp
          refine (HC.out _ vo vw (H0r.out.still hHeld)).mono ?_
          rintro e w5 ⟨rfl, kc⟩
          go_wp2_with fail
          refine hK.out _ _ (hHeld.trans kc) (fun hHeld7 => ?_)
          clear hK K
          try simp only [Act.put, List.setIfInBounds_toArray, List.set_cons_zero, List.set_cons_succ]
          refine tk 11 (h := ?_)
          refine tk 12 (h := ?_)
          refine tk 13 (h := ?_)
          refine rd 14 (h := fun K hK => ?_)
          go_simp
          have hb6 := Box.new w5 102 #[.int .u64 0, .bool false, .string ⟨#[]⟩]
          obtain ⟨g8, hg8⟩ : ∃ g8, w5.heap.size = g8 := ⟨_, rfl⟩
          rw [hg8] at hb6
          have ka := (Kp.refl (fun _ => False) w5).alloc (.cells #[.int .u64 0, .bool false, .string ⟨#[]⟩] 102)
          have hgw := Lib.hid (show wr.heap.size ≤ g8 by rw [← hg8]; exact (hHeld7).size)
          have HG8 := Lib.hid hg8
          try rw [HG8.out]
          generalize w5.alloc (.cells #[.int .u64 0, .bool false, .string ⟨#[]⟩] 102) = w6 at *
          refine hK.out _ _ ((hHeld7).trans ka) (fun hHeld8 => ?_)
          clear hK K
          try simp only [Act.put, List.setIfInBounds_toArray, List.set_cons_zero, List.set_cons_succ]
          refine rd 15 (h := fun K hK => ?_)
          rw [if_pos (by rfl)]
          refine wp_store_box 102 (.tmp 8) (.tmp 26) rfl g8 [.int .u64 q, .bool bl, .string st] rfl rfl hb6 rfl info_rsheet (shc_one _ _ _) ?_
          intro w7 hb7 hk7
          have B7 := Lib.hid hb7
          have K7 := Lib.hid ((hHeld8).trans_new hk7 (fun b e => .inl (by have := hgw.out; omega)))
          clear hb7 hk7
          refine hK.out _ _ (K7.out) (fun hHeld9 => ?_)
          clear hK K
          try simp only [Act.put]
          refine tk 16 (h := ?_)
          refine wpAnyH_done (by kernel_rfl) ?_ _
          go_wp2_with fail
          go_meet
          exact ⟨g8, rfl, rfl, B7.out, K7.out⟩
        · go_simp
          have hb6 : Box (wr.alloc (.cells #[.int .u64 0, .bool false, .string ⟨#[]⟩] 102)).drew wr.heap.size 102 #[.int .u64 0, .bool false, .string ⟨#[]⟩] := Box.new wr 102 #[.int .u64 0, .bool false, .string ⟨#[]⟩]
          have ka : Kp (fun _ => False) wr (wr.alloc (.cells #[.int .u64 0, .bool false, .string ⟨#[]⟩] 102)).drew := ((Kp.refl (fun _ => False) wr).alloc (.cells #[.int .u64 0, .bool false, .string ⟨#[]⟩] 102)).drew
          obtain ⟨g8, hg8⟩ : ∃ g8, wr.heap.size = g8 := ⟨_, rfl⟩
          rw [hg8] at hb6
          have hgw := Lib.hid (show wr.heap.size ≤ g8 by omega)
          have HG8 := Lib.hid hg8
          try rw [HG8.out]
          clear hg8
          generalize (wr.alloc (.cells #[.int .u64 0, .bool false, .string ⟨#[]⟩] 102)).drew = w5 at *
          refine hK.out _ _ (ka) (fun hHeld10 => ?_)
          clear hK K
          try simp only [Act.put, List.setIfInBounds_toArray, List.set_cons_zero, List.set_cons_succ]
          refine rd 10 (h := fun K hK => ?_)
          go_simp
          refine (HC.out _ vo vw (H0r.out.still hHeld10)).mono ?_
          rintro e w6 ⟨rfl, kc⟩
          go_wp2_with fail
          refine hK.out _ _ (hHeld10.trans kc) (fun hHeld11 => ?_)
          clear hK K
          try simp only [Act.put, List.setIfInBounds_toArray, List.set_cons_zero, List.set_cons_succ]
          refine tk 11 (h := ?_)
          refine tk 12 (h := ?_)
          refine tk 13 (h := ?_)
          refine rd 15 (h := fun K hK => ?_)
          rw [if_pos (by rfl)]
          refine wp_store_box 102 (.tmp 8) (.tmp 26) rfl g8 [.int .u64 q, .bool bl, .string st] rfl rfl (hb6.kp kc (fun e => e)) rfl info_rsheet (shc_one _ _ _) ?_
          intro w7 hb7 hk7
          have B7 := Lib.hid hb7
          have K7 := Lib.hid ((hHeld11).trans_new hk7 (fun b e => .inl (by have := hgw.out; omega)))
          clear hb7 hk7
          refine hK.out _ _ (K7.out) (fun hHeld12 => ?_)
          clear hK K
          try simp only [Act.put]
          refine tk 16 (h := ?_)
          refine wpAnyH_done (by kernel_rfl) ?_ _
          go_wp2_with fail
          go_meet
          exact ⟨g8, rfl, rfl, B7.out, K7.out⟩
      case rest =>
        obtain ⟨g8, rfl, rfl, hb8, hk8⟩ := hcut
        have K8 := Lib.hid (HI.out.kp.trans hk8)
        have R8 := Lib.hid (down_kp HI.out.row hk8 (fun k e h => h))
        have c0 := hb8.cell 0
        have c1 := hb8.cell 1
        have c2 := hb8.cell 2
        simp at c0 c1 c2
        have hshort := HI.out.short
        clear hb8 hk8
        rcases bl with _ | _
        · have HS2 := Lib.hid (show acc ++ parse tt (ss.drop (j + 1)) = total by simpa using HSUM.out)
          go_wp2_with fail
          go_roundw
          case rel => exact ⟨j + 1, acc, tt, HJL.out, by rw [← HQQ.out, ← HQ.out]; rfl, rfl, ⟨HS2.out, R8.out, K8.out, HSL.out, by omega⟩⟩
          case measure => have := HQQ.out; have := HQ.out; have := HJL.out; simp [intOf]; omega
        · have HS2 := Lib.hid (show (acc ++ [tt]) ++ parse [] (ss.drop (j + 1)) = total by simpa using HSUM.out)
          have HSH := Lib.hid (show acc.length ≤ 65536 by have := HJL.out; omega)
          have HWC := Lib.hid K8.out.size
          go_wp2_with (at_builtin; go_must (refine wpList_append_own _ rfl (.tmp 43) (.tmp 45) 33 rfl W.heap.size 9 i0 (.string ⟨#[]⟩) 1 16 Tryz.underlying33 hi0 hz0 hz1 hz2 rfl (by decide) u5 acc.length (strs acc) rfl (R8.out.alloc _) ⟨wc.heap.size, 0, none⟩ 1 1 [.string ⟨tt.toArray⟩] rfl rfl (cell_one_new _ _ _) (by intro u hu; simp only [List.mem_cons, List.not_mem_nil, or_false] at hu; subst hu; rfl) (by have := HSH.out; unfold maxLen; omega) (by have := HSH.out; omega) (by have := HWC.out; simp; omega) ?_; intro v' w4 hown4 hgr4 _; have R4 := Lib.hid hown4; have G4 := Lib.hid hgr4; clear hown4 hgr4))
          go_roundw
          case rel =>
            refine ⟨j + 1, acc ++ [tt], [], HJL.out, by rw [← HQQ.out, ← HQ.out]; rfl, rfl, ⟨HS2.out, ?_, ?_, by simp, by rw [List.length_append]; simp; omega⟩⟩
            · rw [List.length_append, strs_snoc]
              exact R4.out
            · exact (K8.out.alloc _).grown G4.out (fun k e => .inl ((R8.out.lt k e).1))
          case measure => have := HQQ.out; have := HQ.out; have := HJL.out; simp [intOf]; omega
end Go.Proofs.YtfcljcikajaedaaGreatDoor

/- A head is written and the disk flushed, in the document's own words. Conditions: the disk's own; the head's own; fewer than 2^30 writes that wait. -/
namespace Go.Proofs.YtfcljcikajaedaaGreatDoor
open Go.RowKit Go.Maps

theorem ok_writeS {d : Dm} (h : d.ok) (a : Int) (l : List UInt8) (hw : d.wait.length + 1 < 1073741824) : (d.writeS a l).1.ok := by
  unfold Dm.writeS
  split
  · exact h
  · split
    · exact h
    · split
      · exact ok_lose h _
      · rename_i h1 h2 h3
        have hx : secB d a = true ∧ l.length = 512 := by simpa using h2
        have hs : 0 ≤ a ∧ a < d.on.length := by simpa [secB] using hx.1
        exact ok_push (ok_act h) _ _ (by show a.toNat < d.on.length; omega) hx.2 hw
set_option maxRecDepth 100000 in
set_option maxHeartbeats 8000000 in
theorem rputD_any {w : World} {vo vw : Value} {d : Dm} (h0 : Rf w vo vw d) (ok : d.ok) (a : Nat) (h : Hd) (okh : h.ok) (hw : d.wait.length + 1 < 1073741824) :
    Calls Tryz.prog 58 #[.agg (rcs d vo vw), .int .i64 a, .agg (hcsR h)] w fun e w' => ∃ vo' vw', e = .returned (.tuple #[.agg (rcs (d.putHead a h).1 vo' vw'), .int .i64 (d.putHead a h).2]) ∧ Rf w' vo' vw' (d.putHead a h).1 ∧ Kp (fun _ => False) w w' := by
  obtain ⟨D1, e1, hx⟩ : ∃ D1 e1, d.writeS a (hsec h) = (D1, e1) := ⟨_, _, rfl⟩
  obtain ⟨D9, e9, hx9⟩ : ∃ D9 e9, d.putHead a h = (D9, e9) := ⟨_, _, rfl⟩
  have hp : (D9, e9) = if e1 = 0 then D1.flushS else (D1, e1) := by
    rw [← hx9]; unfold Dm.putHead; rw [hx]
  have ok1 : D1.ok := by have := ok_writeS ok a (hsec h) hw; rwa [hx] at this
  have HFL : Hid (e1 = 0 → ∀ (w : World) vo vw, Rf w vo vw D1 → Calls Tryz.prog 53 #[.agg (rcs D1 vo vw)] w fun e w' => ∃ vo' vw', e = .returned (.tuple #[.agg (rcs D9 vo' vw'), .int .i64 e9]) ∧ Rf w' vo' vw' D9 ∧ Kp (fun _ => False) w w') := Lib.hid (fun he w vo vw hr => by
    have := rflush_any hr ok1
    rw [if_pos he] at hp
    rwa [← hp] at this)
  have HEL : Hid (¬ e1 = 0 → D1 = D9 ∧ e1 = e9) := Lib.hid (fun he => by
    rw [if_neg he] at hp
    injection hp with p1 p2
    exact ⟨p1.symm, p2.symm⟩)
  have hl := hsec_length h okh.note_
  have HWR : Hid (∀ (w : World) vo vw, Rf w vo vw d → Calls Tryz.prog 51 #[.agg (rcs d vo vw), .int .i64 a, .string ⟨(hsec h).toArray⟩] w fun e w' => ∃ vo' vw', e = .returned (.tuple #[.agg (rcs D1 vo' vw'), .int .i64 e1]) ∧ Rf w' vo' vw' D1 ∧ Kp (fun _ => False) w w') := Lib.hid (fun w vo vw hr => by
    have := rwrite_any hr ok a (hsec h) (by rw [hl]; decide) hw
    rwa [hx] at this)
  have HPU := Lib.hid (fun w : World => hput6_any h w okh.g_ okh.f_ (by have := okh.hi; omega) okh.note_)
  rw [hx9]
  have Hr : Hid (Tryz.f58.results = #[.cell 6 37, .tmp 7]) := Lib.hid (by kernel_rfl)
  obtain ⟨W, hW, hb0, hb1, hb2, hkw⟩ : ∃ W, W = ((w.alloc (.cells (rcs d vo vw) 37)).alloc (.cells (hcsR h) 40)).alloc (.cells #[.slice none 0 0, .slice none 0 0, .bool false, .int .i64 0, .string ⟨#[]⟩, .int .u64 0] 37) ∧ Box W w.heap.size 37 (rcs d vo vw) ∧ Box W (w.heap.size + 1) 40 (hcsR h) ∧ Box W (w.heap.size + 1 + 1) 37 #[.slice none 0 0, .slice none 0 0, .bool false, .int .i64 0, .string ⟨#[]⟩, .int .u64 0] ∧ Kp (fun _ => False) w W := by
    refine ⟨_, rfl, ((Box.new w _ _).alloc _).alloc _, ?_, ?_, (((Kp.refl _ w).alloc _).alloc _).alloc _⟩
    · have := Box.new (w.alloc (.cells (rcs d vo vw) 37)) 40 (hcsR h)
      rw [World.size_alloc] at this
      exact this.alloc _
    · have := Box.new ((w.alloc (.cells (rcs d vo vw) 37)).alloc (.cells (hcsR h) 40)) 37 #[.slice none 0 0, .slice none 0 0, .bool false, .int .i64 0, .string ⟨#[]⟩, .int .u64 0]
      rw [World.size_alloc, World.size_alloc] at this
      exact this
  have HW := Lib.hid hW
  have B0 := Lib.hid hb0
  have B1 := Lib.hid hb1
  have B2 := Lib.hid hb2
  have KW := Lib.hid hkw
  have H0 := Lib.hid (h0.still hkw)
  have DR := Lib.hid ((Kp.refl (fun _ => False) W).drew)
  clear hb0 hb1 hb2 hkw hW h0 ok ok1 hx hx9 hp hl hw okh
  go_enter Tryz.func58, Tryz.ntmps58
  go_upto_region 1 with fail
  rw [← HW.out]
  refine wp_region_held_drew (S := fun v => Kp (fun k => k = w.heap.size) W v) (by kernel_rfl) (DR.out.of_false) (fun hHeld => ?_)
  refine tk 1 (h := ?_)
  refine wpAnyH_take (i := 2) (oi := { dst := some 12, op := Op.load 40 (Operand.tmp 5), type := 40, pos := "ref.go:116", after := #[], guard := none }) (v := _) rfl (by kernel_rfl) (by kernel_rfl) (by kernel_rfl) (fun _ _ _ h => h) (yieldsIf_load_mid (by rfl) _ _ rfl (w.heap.size + 1) 0 rfl (hcsR h).toList _ (fun v hv => Box.range' (L := (hcsR h).toList) (B1.out.kp hv (fun e => by omega))) Tryz.underlying40 rfl info_rhead) (by assumption) ?_
  try simp only [Act.put, List.setIfInBounds_toArray, List.set_cons_zero, List.set_cons_succ]
  refine wpAnyH_ready (rs := [0, 3]) (by kernel_rfl) (by simp) ?_
  refine rdc 0 (h := fun K hK => ?_) (hs := rdc 3 (h := fun K hK => ?_) (hs := AllReadyH.nil))
  · rw [if_pos (by rfl)]
    refine wp_load_mid 37 (.tmp 3) rfl w.heap.size 0 rfl (rcs d vo vw).toList _ (Box.range' (L := (rcs d vo vw).toList) (B0.out.kp DR.out (fun e => e))) Tryz.underlying37 rfl infoRef ?_
    refine hK.out _ _ (DR.out.of_false) (fun hHeld1 => ?_)
    clear hK K
    try simp only [Act.put, List.setIfInBounds_toArray, List.set_cons_zero, List.set_cons_succ]
    refine rd 3 (h := fun K hK => ?_)
    go_simp
    refine (HPU.out _).mono ?_
    rintro e w6 ⟨rfl, k6⟩
    go_wp2_with fail
    refine hK.out _ _ ((DR.out.trans k6).of_false) (fun hHeld2 => ?_)
    clear hK K
    try simp only [Act.put, List.setIfInBounds_toArray, List.set_cons_zero, List.set_cons_succ]
    refine rd 4 (h := fun K hK => ?_)
    go_simp
    refine (HWR.out _ vo vw (H0.out.still (DR.out.trans k6))).mono ?_
    rintro e w7 ⟨va, vb, rfl, r7, k7⟩
    have R7 := Lib.hid r7
    have K7 := Lib.hid ((DR.out.trans k6).trans k7)
    have B7 := Lib.hid (B0.out.kp K7.out (fun e => e))
    clear r7 k7 k6
    go_wp2_with fail
    refine hK.out _ _ (K7.out.of_false) (fun hHeld3 => ?_)
    clear hK K
    try simp only [Act.put, List.setIfInBounds_toArray, List.set_cons_zero, List.set_cons_succ]
    refine tk 5 (h := ?_)
    refine tk 6 (h := ?_)
    refine tk 7 (h := ?_)
    refine rd 8 (h := fun K hK => ?_)
    rw [if_pos (by rfl)]
    refine dwp_store_box 37 (.tmp 3) (.tmp 15) rfl w.heap.size (rcs D1 va vb).toList rfl rfl B7.out rfl infoRef (rcs_one _ _ _ R7.out.c1.1 R7.out.c1.2) ?_
    intro w8 hb hk
    have B8 := Lib.hid hb
    have R8 := Lib.hid (R7.out.store B7.out hk)
    have K8 := Lib.hid ((KW.out.trans K7.out).trans_new hk (fun k e => .inl (by omega)))
    have BR8 := Lib.hid ((B2.out.kp K7.out (fun e => e)).kp hk (fun e => by omega))
    have S8 := Lib.hid (K7.out.of_false.trans hk)
    clear hb hk
    refine hK.out _ _ (S8.out) (fun hHeld4 => ?_)
    clear hK K
    try simp only [Act.put]
    refine tk 9 (h := ?_)
    refine wpAnyH_done (by kernel_rfl) ?_ _
    by_cases he : e1 = 0
    · have HFR := Lib.hid (HFL.out he)
      subst he
      clear HFL HEL
      go_wp2_with (first | (refine wpList_load_mid rfl 37 (.tmp 3) rfl w.heap.size 0 rfl (rcs D1 va vb).toList _ (Box.range' (L := (rcs D1 va vb).toList) B8.out) Tryz.underlying37 rfl infoRef ?_) | fail)
      refine (HFR.out _ va vb R8.out).mono ?_
      rintro e w9 ⟨vc, vd, rfl, r9, k9⟩
      have R9 := Lib.hid r9
      have K9 := Lib.hid (K8.out.trans k9)
      have B9 := Lib.hid (BR8.out.kp k9 (fun e => e))
      clear r9 k9
      go_wp2_with (first | (refine dwpList_store_box rfl 37 (.tmp 6) (.tmp 23) rfl (w.heap.size + 1 + 1) (rcs D9 vc vd).toList rfl rfl B9.out rfl infoRef (rcs_one _ _ _ R9.out.c1.1 R9.out.c1.2) ?_; intro w5 hb5 hk5) | fail)
      refine bodyPost_ret (v := .tuple #[.agg (rcs D9 vc vd), .int .i64 e9]) ?_ rfl ⟨vc, vd, rfl, R9.out.store B9.out hk5, K9.out.trans_new hk5 (fun k e => .inl (by omega))⟩
      exact dresults_two Hr.out _ _ (w.heap.size + 1 + 1) 37 _ (0, 0) _ rfl hb5 Tryz.underlying37 rfl infoRef
    · obtain ⟨rfl, rfl⟩ := HEL.out he
      have hne : (e1 != 0) = true := by simpa using he
      clear HFL HEL he
      go_wp2_with (first | (refine wpList_load_mid rfl 37 (.tmp 3) rfl w.heap.size 0 rfl (rcs D1 va vb).toList _ (Box.range' (L := (rcs D1 va vb).toList) B8.out) Tryz.underlying37 rfl infoRef ?_) | (refine dwpList_store_box rfl 37 (.tmp 6) (.tmp 19) rfl (w.heap.size + 1 + 1) (rcs D1 va vb).toList rfl rfl BR8.out rfl infoRef (rcs_one _ _ _ R8.out.c1.1 R8.out.c1.2) ?_; intro w5 hb5 hk5) | fail)
      refine bodyPost_ret (v := .tuple #[.agg (rcs D1 va vb), .int .i64 e1]) ?_ rfl ⟨va, vb, rfl, R8.out.store BR8.out hk5, K8.out.trans_new hk5 (fun k e => .inl (by omega))⟩
      exact dresults_two Hr.out _ _ (w.heap.size + 1 + 1) 37 _ (0, 0) _ rfl hb5 Tryz.underlying37 rfl infoRef
  · go_simp
    refine (HPU.out _).mono ?_
    rintro e w6 ⟨rfl, k6⟩
    go_wp2_with fail
    refine hK.out _ _ ((DR.out.trans k6).of_false) (fun hHeld5 => ?_)
    clear hK K
    try simp only [Act.put, List.setIfInBounds_toArray, List.set_cons_zero, List.set_cons_succ]
    refine rd 0 (h := fun K hK => ?_)
    rw [if_pos (by rfl)]
    refine wp_load_mid 37 (.tmp 3) rfl w.heap.size 0 rfl (rcs d vo vw).toList _ (Box.range' (L := (rcs d vo vw).toList) (B0.out.kp (DR.out.trans k6) (fun e => e))) Tryz.underlying37 rfl infoRef ?_
    refine hK.out _ _ ((DR.out.trans k6).of_false) (fun hHeld6 => ?_)
    clear hK K
    try simp only [Act.put, List.setIfInBounds_toArray, List.set_cons_zero, List.set_cons_succ]
    refine rd 4 (h := fun K hK => ?_)
    go_simp
    refine (HWR.out _ vo vw (H0.out.still (DR.out.trans k6))).mono ?_
    rintro e w7 ⟨va, vb, rfl, r7, k7⟩
    have R7 := Lib.hid r7
    have K7 := Lib.hid ((DR.out.trans k6).trans k7)
    have B7 := Lib.hid (B0.out.kp K7.out (fun e => e))
    clear r7 k7 k6
    go_wp2_with fail
    refine hK.out _ _ (K7.out.of_false) (fun hHeld7 => ?_)
    clear hK K
    try simp only [Act.put, List.setIfInBounds_toArray, List.set_cons_zero, List.set_cons_succ]
    refine tk 5 (h := ?_)
    refine tk 6 (h := ?_)
    refine tk 7 (h := ?_)
    refine rd 8 (h := fun K hK => ?_)
    rw [if_pos (by rfl)]
    refine dwp_store_box 37 (.tmp 3) (.tmp 15) rfl w.heap.size (rcs D1 va vb).toList rfl rfl B7.out rfl infoRef (rcs_one _ _ _ R7.out.c1.1 R7.out.c1.2) ?_
    intro w8 hb hk
    have B8 := Lib.hid hb
    have R8 := Lib.hid (R7.out.store B7.out hk)
    have K8 := Lib.hid ((KW.out.trans K7.out).trans_new hk (fun k e => .inl (by omega)))
    have BR8 := Lib.hid ((B2.out.kp K7.out (fun e => e)).kp hk (fun e => by omega))
    have S8 := Lib.hid (K7.out.of_false.trans hk)
    clear hb hk
    refine hK.out _ _ (S8.out) (fun hHeld8 => ?_)
    clear hK K
    try simp only [Act.put]
    refine tk 9 (h := ?_)
    refine wpAnyH_done (by kernel_rfl) ?_ _
    by_cases he : e1 = 0
    · have HFR := Lib.hid (HFL.out he)
      subst he
      clear HFL HEL
      go_wp2_with (first | (refine wpList_load_mid rfl 37 (.tmp 3) rfl w.heap.size 0 rfl (rcs D1 va vb).toList _ (Box.range' (L := (rcs D1 va vb).toList) B8.out) Tryz.underlying37 rfl infoRef ?_) | fail)
      refine (HFR.out _ va vb R8.out).mono ?_
      rintro e w9 ⟨vc, vd, rfl, r9, k9⟩
      have R9 := Lib.hid r9
      have K9 := Lib.hid (K8.out.trans k9)
      have B9 := Lib.hid (BR8.out.kp k9 (fun e => e))
      clear r9 k9
      go_wp2_with (first | (refine dwpList_store_box rfl 37 (.tmp 6) (.tmp 23) rfl (w.heap.size + 1 + 1) (rcs D9 vc vd).toList rfl rfl B9.out rfl infoRef (rcs_one _ _ _ R9.out.c1.1 R9.out.c1.2) ?_; intro w5 hb5 hk5) | fail)
      refine bodyPost_ret (v := .tuple #[.agg (rcs D9 vc vd), .int .i64 e9]) ?_ rfl ⟨vc, vd, rfl, R9.out.store B9.out hk5, K9.out.trans_new hk5 (fun k e => .inl (by omega))⟩
      exact dresults_two Hr.out _ _ (w.heap.size + 1 + 1) 37 _ (0, 0) _ rfl hb5 Tryz.underlying37 rfl infoRef
    · obtain ⟨rfl, rfl⟩ := HEL.out he
      have hne : (e1 != 0) = true := by simpa using he
      clear HFL HEL he
      go_wp2_with (first | (refine wpList_load_mid rfl 37 (.tmp 3) rfl w.heap.size 0 rfl (rcs D1 va vb).toList _ (Box.range' (L := (rcs D1 va vb).toList) B8.out) Tryz.underlying37 rfl infoRef ?_) | (refine dwpList_store_box rfl 37 (.tmp 6) (.tmp 19) rfl (w.heap.size + 1 + 1) (rcs D1 va vb).toList rfl rfl BR8.out rfl infoRef (rcs_one _ _ _ R8.out.c1.1 R8.out.c1.2) ?_; intro w5 hb5 hk5) | fail)
      refine bodyPost_ret (v := .tuple #[.agg (rcs D1 va vb), .int .i64 e1]) ?_ rfl ⟨va, vb, rfl, R8.out.store BR8.out hk5, K8.out.trans_new hk5 (fun k e => .inl (by omega))⟩
      exact dresults_two Hr.out _ _ (w.heap.size + 1 + 1) 37 _ (0, 0) _ rfl hb5 Tryz.underlying37 rfl infoRef
end Go.Proofs.YtfcljcikajaedaaGreatDoor
