/- The law of pages, part 12 of 55: ShTake WlMap WlSmall. -/
import Derived.Test.YtepaeliamhjgiaaGreatDoorMu1
import Derived.Test.YtepaeliamhjgiaaGreatDoorMu11
import Derived.Test.YtepaeliamhjgiaaGreatDoorMu8
import Derived.Maps.RangeWalk
import Derived.Test.YtepaeliamhjgiaaGreatDoorMu7
set_option maxHeartbeats 16000000
set_option maxRecDepth 100000
namespace Go.Proofs.YtepaeliamhjgiaaGreatDoor
open Go.RowKit
def shV (s : Sh) : Value := sv s.q s.last ⟨s.t.toArray⟩
def takeV (l : List UInt8) : Value := match takeS l with
  | some s => .tuple #[shV s, .int .i64 0]
  | none => .tuple #[sv 0 false ⟨#[]⟩, .int .i64 3]
theorem take_results : Tryz.f135.results = #[.cell 2 172, .tmp 3] := rfl
theorem takeV_none {l : List UInt8} (h : takeS l = none) : takeV l = .tuple #[sv 0 false ⟨#[]⟩, .int .i64 3] := by rw [takeV, h]
theorem takeV_some {l : List UInt8} {s : Sh} (h : takeS l = some s) : takeV l = .tuple #[shV s, .int .i64 0] := by rw [takeV, h]
theorem take_odd (A : Option Addr) (c n : Nat) (l : List UInt8) (w : World) (h : Rd w A l) (ht : Tbl w) (hl : l.length = n) (hn : n ≠ 512) :
    Calls Tryz.prog 135 #[.slice A n c] w fun e w' => e = .returned (takeV l) ∧ Kp (fun _ => False) w w' := by
  have hnn : ((n : Int) != 512) = true := by simp; omega
  rw [takeV_none (by unfold takeS; rw [if_neg (by omega)])]
  clear hn
  have H := Lib.hid h
  have HT := Lib.hid ht
  have B2 := Lib.hid (Box.new w 172 #[.int .u64 0, .bool false, .string ⟨#[]⟩])
  have K0 := Lib.hid ((Kp.refl (fun _ => False) w).alloc (.cells #[.int .u64 0, .bool false, .string ⟨#[]⟩] 172))
  have hz : (w.alloc (.cells #[.int .u64 0, .bool false, .string ⟨#[]⟩] 172)).heap.size = w.heap.size + 1 := by simp
  have HL := Lib.hid hl
  clear h ht hl
  go_enter Tryz.func135, Tryz.ntmps135
  go_upto_region 1 with fail
  generalize w.alloc (.cells #[.int .u64 0, .bool false, .string ⟨#[]⟩] 172) = w0 at *
  go_wp2_with (first | (refine wpList_store_box rfl 172 (.tmp 2) (.tmp 11) rfl w.heap.size [.int .u64 0, .bool false, .string ⟨#[]⟩] rfl rfl B2.out rfl info_sheet (sh_one _ _ _) ?_; intro W hb hk) | fail)
  have KF : Kp (fun _ => False) w W := K0.out.trans_new hk (fun b e => .inl (by omega))
  refine bodyPost_ret (v := .tuple #[sv 0 false ⟨#[]⟩, .int .i64 3]) ?_ rfl ⟨rfl, KF⟩
  exact results_two take_results _ _ w.heap.size 172 _ (0, 0) _ rfl hb Tryz.underlying172 rfl info_sheet
theorem take_whole (A : Option Addr) (c : Nat) (l : List UInt8) (w : World) (h : Rd w A l) (ht : Tbl w) (hl : l.length = 512) :
    Calls Tryz.prog 135 #[.slice A 512 c] w fun e w' => e = .returned (takeV l) ∧ Kp (fun _ => False) w w' := by
  have H := Lib.hid h
  have HT := Lib.hid ht
  have B2 := Lib.hid (Box.new w 172 #[.int .u64 0, .bool false, .string ⟨#[]⟩])
  have K0 := Lib.hid ((Kp.refl (fun _ => False) w).alloc (.cells #[.int .u64 0, .bool false, .string ⟨#[]⟩] 172))
  have hz : (w.alloc (.cells #[.int .u64 0, .bool false, .string ⟨#[]⟩] 172)).heap.size = w.heap.size + 1 := by simp
  have HL := Lib.hid hl
  clear h ht hl
  go_enter Tryz.func135, Tryz.ntmps135
  go_upto_region 1 with fail
  generalize w.alloc (.cells #[.int .u64 0, .bool false, .string ⟨#[]⟩] 172) = w0 at *
  go_wp2_with fail
  refine (of_any (fun k => w.heap.size + 1 ≤ k) w0 (fun k hk => by omega) A 512 c l HL.out (H.out.kp K0.out (fun _ _ e => e)) (by rw [HL.out]; decide)).mono ?_
  rintro e w1 ⟨o, rfl, hob, ho, hk⟩
  have O1 := Lib.hid ho
  have K1 := Lib.hid (K0.out.trans hk)
  have B1 := Lib.hid (B2.out.kp hk (fun e => e))
  clear ho hk
  go_wp2_with fail
  refine (take_fine O1.out 8 rfl (by rw [HL.out]; decide)).mono ?_
  rintro e w2 ⟨rfl, ho, hk⟩
  have O2 := Lib.hid ho
  have B2 := Lib.hid (B1.out.kp hk (fun e => by omega))
  have K2 := Lib.hid (K1.out.trans_new hk (fun b e => .inl (by omega)))
  clear ho hk
  obtain ⟨q, hq⟩ : ∃ q, numN (l.take 8) = q := ⟨_, rfl⟩
  rw [hq]
  have HQ := Lib.hid hq
  clear hq
  go_wp2_with fail
  refine (take_fine O2.out 1 rfl (by rw [List.length_drop, HL.out]; decide)).mono ?_
  rintro e w3 ⟨rfl, ho, hk⟩
  rw [List.drop_drop] at ho
  have O3 := Lib.hid ho
  have B3 := Lib.hid (B2.out.kp hk (fun e => by omega))
  have K3 := Lib.hid (K2.out.trans_new hk (fun b e => .inl (by omega)))
  clear ho hk
  obtain ⟨k, hk0⟩ : ∃ k, numN ((l.drop 8).take 1) = k := ⟨_, rfl⟩
  rw [hk0]
  obtain ⟨kb, hkb⟩ : ∃ kb, tl l = kb := ⟨_, rfl⟩
  have hb2 : (((k : Nat) : Int) == 2) = kb := by
    rw [← hkb, tl, hk0]
    by_cases h2 : k = 2
    · subst h2; rfl
    · rw [decide_eq_false h2]; simp; omega
  have HK0 := Lib.hid hk0
  have HKB := Lib.hid hkb
  clear hk0 hkb
  have B5 := Lib.hid (Box.new w3 172 #[.int .u64 q, .bool kb, .string ⟨#[]⟩])
  have B4 := Lib.hid (B3.out.alloc (.cells #[.int .u64 q, .bool kb, .string ⟨#[]⟩] 172))
  have K4 := Lib.hid (K3.out.alloc (.cells #[.int .u64 q, .bool kb, .string ⟨#[]⟩] 172))
  have O4 := Lib.hid ((O3.out.old.mono (G' := fun k => w.heap.size + 1 ≤ k ∧ k ≠ w3.heap.size) (fun k e => ⟨e.1, by omega⟩)).kp (((Kp.refl (fun _ => False) w3).alloc (.cells #[.int .u64 q, .bool kb, .string ⟨#[]⟩] 172))) (fun _ _ e => e))
  have hgo : w.heap.size < w3.heap.size := B3.out.lt
  have hgl := B5.out.lt
  have hol : o < w3.heap.size := (O3.out.old).1.2
  go_wp2_with fail
  generalize w3.alloc (.cells #[.int .u64 q, .bool kb, .string ⟨#[]⟩] 172) = w4 at *
  generalize w3.heap.size = g at *
  clear hb2
  refine (take_fine O4.out 2 rfl (by rw [List.length_drop, HL.out]; decide)).mono ?_
  rintro e w5 ⟨rfl, ho, hk⟩
  rw [List.drop_drop] at ho
  have O5 := Lib.hid ho
  have B5a := Lib.hid (B5.out.kp hk (fun e => by omega))
  have B5b := Lib.hid (B4.out.kp hk (fun e => by omega))
  have K5 := Lib.hid (K4.out.trans_new hk (fun b e => .inl (by omega)))
  clear ho hk
  obtain ⟨n, hn⟩ : ∃ n, tn l = n := ⟨_, rfl⟩
  rw [show numN ((l.drop 9).take 2) = n from hn]
  have hnl : n < 65536 := by
    rw [← hn, tn]
    have := numN_lt ((l.drop 9).take 2)
    rw [List.length_take, List.length_drop, HL.out] at this
    exact this
  have HN := Lib.hid hn
  clear hn
  have hwn : IntKind.i64.wrap (n : Int) = n := IntWalk.i64_in _ (by omega)
  go_wp2_with fail
  have hq64 : q < 18446744073709551616 := by
    rw [← HQ.out]
    exact numN_lt8 _ (by rw [List.length_take]; omega)
  by_cases hn1 : n ≤ 501
  · refine (otext_fine O5.out n (by rw [List.length_drop, HL.out]; omega)).mono ?_
    rintro e w6 ⟨rfl, ho, hk⟩
    have B6 := Lib.hid (B5a.out.kp hk (fun e => by omega))
    have R6 := Lib.hid (B5b.out.kp hk (fun e => by omega))
    have K6 := Lib.hid (K5.out.trans_new hk (fun b e => .inl (by omega)))
    have O6 := Lib.hid ho
    clear ho hk
    obtain ⟨tx, htx⟩ : ∃ tx, tt l = tx := ⟨_, rfl⟩
    have htx' : (l.drop (8 + 1 + 2)).take n = tx := by rw [← htx, tt, HN.out]
    rw [htx']
    have htl : tx.length = n := by rw [← htx', List.length_take, List.length_drop, HL.out]; omega
    have HTX := Lib.hid htx
    have HTL := Lib.hid htl
    clear htx htx' htl
    have c2 := B6.out.cell 2
    have f2 := B6.out.free 2
    simp at c2
    have P6 := B6.out.put 2 (.string ⟨tx.toArray⟩)
    simp only [List.setIfInBounds_toArray, List.set_cons_succ, List.set_cons_zero] at P6
    have B7 := Lib.hid P6
    have R7 := Lib.hid (R6.out.kp (Kp.one w6 g 2 (.string ⟨tx.toArray⟩)) (fun e => by omega))
    have K7 := Lib.hid (K6.out.setCell (p := ⟨g, 2, none⟩) (.inl (by show w.heap.size ≤ g; omega)) (.string ⟨tx.toArray⟩))
    have O7 := Lib.hid (O6.out.kp (Kp.one w6 g 2 (.string ⟨tx.toArray⟩)) (fun k e1 e2 => by omega))
    clear P6
    go_upto_region 6 with fail
    generalize w6.setCell ⟨g, 2, none⟩ (.string ⟨tx.toArray⟩) = w7 at *
    clear c2 f2
    go_wp2_with (first | (refine wpList_load_mid rfl 172 (.tmp 5) rfl g 0 rfl [.int .u64 q, .bool kb, .string ⟨tx.toArray⟩] _ (Box.range' (L := [.int .u64 q, .bool kb, .string ⟨tx.toArray⟩]) B7.out) Tryz.underlying172 rfl info_sheet ?_) | fail)
    by_cases hn2 : n ≤ 497
    · have hsz : (⟨tx.toArray⟩ : ByteArray).size = n := by rw [← HTL.out]; show tx.toArray.size = tx.length; simp
      refine (put_fits q kb ⟨tx.toArray⟩ w7 hq64 (by rw [hsz]; exact hn2) (HT.out.kp K7.out (fun e => e))).mono ?_
      clear hsz
      rintro e w8 ⟨A8, c8, rfl, h81, h82, hr8, ha8, hk⟩
      have hsz7 := B7.out.lt
      have hol7 : o < w7.heap.size := by omega
      have HR8 := Lib.hid hr8
      have HA8 := Lib.hid ha8
      clear hr8 ha8
      have B8 := Lib.hid (B7.out.kp hk (fun e => e))
      have R8 := Lib.hid (R7.out.kp hk (fun e => e))
      have K8 := Lib.hid (K7.out.trans hk)
      have O8 := Lib.hid (O7.out.kp hk (fun _ _ e => e))
      clear hk
      go_wp2_with fail
      refine (err_fine O8.out).mono ?_
      rintro e w9 ⟨rfl, _, hk⟩
      have B9 := Lib.hid (B8.out.kp hk (fun e => by omega))
      have R9 := Lib.hid (R8.out.kp hk (fun e => by omega))
      have K9 := Lib.hid (K8.out.trans_new hk (fun b e => .inl (by omega)))
      have HK89 := Lib.hid hk
      clear hk
      have HA := Lib.hid (H.out.kp K9.out (fun _ _ e => e))
      have HR9 := Lib.hid (HR8.out.kp HK89.out (fun a ha => by have := HA8.out a ha; omega))
      have hsl := Lib.hid (secL_length q kb tx (by rw [HTL.out]; exact hn2))
      go_wp2_with fail
      refine (equal_any A A8 c c8 512 512 l (secL q kb tx) w9 HL.out hsl.out HA.out HR9.out).mono ?_
      rintro e w10 ⟨rfl, rfl⟩
      by_cases heq : l = secL q kb tx
      · have hE : (l == secL q kb tx) = true := by rw [← heq]; simp
        rw [hE]
        have HV := Lib.hid (takeV_some (l := l) (s := ⟨q, kb, tx⟩) (by unfold takeS; rw [show tq l = q from HQ.out, HKB.out, HTX.out, HN.out, if_pos ⟨HL.out, hn2, heq.symm⟩]))
        clear hE heq
        go_wp2_with (first | (refine wpList_load_mid rfl 172 (.tmp 5) rfl g 0 rfl [.int .u64 q, .bool kb, .string ⟨tx.toArray⟩] _ (Box.range' (L := [.int .u64 q, .bool kb, .string ⟨tx.toArray⟩]) B9.out) Tryz.underlying172 rfl info_sheet ?_) | (refine wpList_store_box rfl 172 (.tmp 2) (.tmp 45) rfl w.heap.size [.int .u64 q, .bool kb, .string ⟨tx.toArray⟩] rfl rfl R9.out rfl info_sheet (sh_one _ _ _) ?_; intro W hb hk) | fail)
        have KF : Kp (fun _ => False) w W := K9.out.trans_new hk (fun b e => .inl (by omega))
        rw [HV.out]
        refine bodyPost_ret (v := .tuple #[sv q kb ⟨tx.toArray⟩, .int .i64 0]) ?_ rfl ⟨rfl, KF⟩
        exact results_two take_results _ _ w.heap.size 172 _ (0, 0) _ rfl hb Tryz.underlying172 rfl info_sheet
      · have hE : (l == secL q kb tx) = false := by simpa using heq
        rw [hE]
        have HV := Lib.hid (takeV_none (l := l) (by unfold takeS; rw [show tq l = q from HQ.out, HKB.out, HTX.out, HN.out, if_neg (fun h => heq h.2.2.symm)]))
        clear hE heq
        go_wp2_with (first | (refine wpList_store_box rfl 172 (.tmp 2) (.tmp 44) rfl w.heap.size [.int .u64 0, .bool false, .string ⟨#[]⟩] rfl rfl R9.out rfl info_sheet (sh_one _ _ _) ?_; intro W hb hk) | fail)
        have KF : Kp (fun _ => False) w W := K9.out.trans_new hk (fun b e => .inl (by omega))
        rw [HV.out]
        refine bodyPost_ret (v := .tuple #[sv 0 false ⟨#[]⟩, .int .i64 3]) ?_ rfl ⟨rfl, KF⟩
        exact results_two take_results _ _ w.heap.size 172 _ (0, 0) _ rfl hb Tryz.underlying172 rfl info_sheet
    · refine (put_long q kb ⟨tx.toArray⟩ w7 (by have : (⟨tx.toArray⟩ : ByteArray).size = n := by rw [← HTL.out]; show tx.toArray.size = tx.length; simp
                                                omega)).mono ?_
      rintro e w8 ⟨rfl, hk⟩
      have HV := Lib.hid (takeV_none (l := l) (by unfold takeS; rw [HN.out, if_neg (by omega)]))
      have B8 := Lib.hid (B7.out.kp hk (fun e => e))
      have R8 := Lib.hid (R7.out.kp hk (fun e => e))
      have K8 := Lib.hid (K7.out.trans hk)
      have O8 := Lib.hid (O7.out.kp hk (fun _ _ e => e))
      clear hk
      go_wp2_with fail
      refine (err_fine O8.out).mono ?_
      rintro e w9 ⟨rfl, _, hk⟩
      have B9 := Lib.hid (B8.out.kp hk (fun e => by omega))
      have R9 := Lib.hid (R8.out.kp hk (fun e => by omega))
      have K9 := Lib.hid (K8.out.trans_new hk (fun b e => .inl (by omega)))
      clear hk
      go_wp2_with (first | (refine wpList_store_box rfl 172 (.tmp 2) (.tmp 44) rfl w.heap.size [.int .u64 0, .bool false, .string ⟨#[]⟩] rfl rfl R9.out rfl info_sheet (sh_one _ _ _) ?_; intro W hb hk) | fail)
      have KF : Kp (fun _ => False) w W := K9.out.trans_new hk (fun b e => .inl (by omega))
      rw [HV.out]
      refine bodyPost_ret (v := .tuple #[sv 0 false ⟨#[]⟩, .int .i64 3]) ?_ rfl ⟨rfl, KF⟩
      exact results_two take_results _ _ w.heap.size 172 _ (0, 0) _ rfl hb Tryz.underlying172 rfl info_sheet
  · have hg5 := B5a.out.lt
    refine (otext_short O5.out ⟨by omega, by omega⟩ n (.inr (by rw [List.length_drop, HL.out]; omega))).mono ?_
    rintro e w6 ⟨rfl, ho, hk⟩
    have B6 := Lib.hid (B5a.out.kp hk (fun e => by omega))
    have R6 := Lib.hid (B5b.out.kp hk (fun e => by omega))
    have K6 := Lib.hid (K5.out.trans_new hk (fun b e => .inl (by omega)))
    have O6 := Lib.hid ho
    clear ho hk
    have c2 := B6.out.cell 2
    have f2 := B6.out.free 2
    simp at c2
    have P6 := B6.out.put 2 (.string ⟨#[]⟩)
    simp only [List.setIfInBounds_toArray, List.set_cons_succ, List.set_cons_zero] at P6
    have B7 := Lib.hid P6
    have R7 := Lib.hid (R6.out.kp (Kp.one w6 g 2 (.string ⟨#[]⟩)) (fun e => by omega))
    have K7 := Lib.hid (K6.out.setCell (p := ⟨g, 2, none⟩) (.inl (by show w.heap.size ≤ g; omega)) (.string ⟨#[]⟩))
    have O7 := Lib.hid (O6.out.kp (Kp.one w6 g 2 (.string ⟨#[]⟩)) (fun k e1 e2 => by omega))
    clear P6
    go_upto_region 6 with fail
    generalize w6.setCell ⟨g, 2, none⟩ (.string ⟨#[]⟩) = w7 at *
    clear c2 f2
    go_wp2_with (first | (refine wpList_load_mid rfl 172 (.tmp 5) rfl g 0 rfl [.int .u64 q, .bool kb, .string ⟨#[]⟩] _ (Box.range' (L := [.int .u64 q, .bool kb, .string ⟨#[]⟩]) B7.out) Tryz.underlying172 rfl info_sheet ?_) | fail)
    refine (put_fits q kb ⟨#[]⟩ w7 hq64 (by decide) (HT.out.kp K7.out (fun e => e))).mono ?_
    rintro e w8 ⟨A8, c8, rfl, h81, h82, _, _, hk⟩
    have HV := Lib.hid (takeV_none (l := l) (by unfold takeS; rw [HN.out, if_neg (by omega)]))
    have B8 := Lib.hid (B7.out.kp hk (fun e => e))
    have R8 := Lib.hid (R7.out.kp hk (fun e => e))
    have K8 := Lib.hid (K7.out.trans hk)
    have O8 := Lib.hid (O7.out.kp hk (fun _ _ e => e))
    clear hk
    go_wp2_with fail
    refine (err_failed O8.out).mono ?_
    rintro e w9 ⟨rfl, hk⟩
    have B9 := Lib.hid (B8.out.kp hk (fun e => e))
    have R9 := Lib.hid (R8.out.kp hk (fun e => e))
    have K9 := Lib.hid (K8.out.trans hk)
    clear hk
    go_wp2_with (first | (refine wpList_store_box rfl 172 (.tmp 2) (.tmp 44) rfl w.heap.size [.int .u64 0, .bool false, .string ⟨#[]⟩] rfl rfl R9.out rfl info_sheet (sh_one _ _ _) ?_; intro W hb hk) | fail)
    have KF : Kp (fun _ => False) w W := K9.out.trans_new hk (fun b e => .inl (by omega))
    rw [HV.out]
    refine bodyPost_ret (v := .tuple #[sv 0 false ⟨#[]⟩, .int .i64 3]) ?_ rfl ⟨rfl, KF⟩
    exact results_two take_results _ _ w.heap.size 172 _ (0, 0) _ rfl hb Tryz.underlying172 rfl info_sheet
theorem take_any (A : Option Addr) (c n : Nat) (l : List UInt8) (w : World) (h : Rd w A l) (ht : Tbl w) (hl : l.length = n) :
    Calls Tryz.prog 135 #[.slice A n c] w fun e w' => e = .returned (takeV l) ∧ Kp (fun _ => False) w w' := by
  by_cases hn : n = 512
  · subst hn
    exact take_whole A c l w h ht hl
  · exact take_odd A c n l w h ht hl hn
end Go.Proofs.YtepaeliamhjgiaaGreatDoor
namespace Go.Proofs.YtepaeliamhjgiaaGreatDoor
open Go.RowKit Go.Maps
def rdSh : Value -> Option (DataW Sh × List MemPlace)
 |.agg cs => match cs.toList with
  |[.int .u64 q, .bool b, .string s] => if 0 <= q then some (.held ⟨q.toNat, b, s.data.toList⟩, []) else none
  |_ => none
 |_ => none
def mkSh (s : Sh) : Value := .agg #[.int .u64 s.q, .bool s.last, .string ⟨s.t.toArray⟩]
theorem rdSh_mk (s : Sh) : rdSh (mkSh s) = some (.held s, []) := by
 simp [rdSh, mkSh]
theorem rdSh_inv {v : Value} {z : DataW Sh × List MemPlace} (h : rdSh v = some z) : ∃ s, v = mkSh s /\ z = (.held s, []) := by
 unfold rdSh at h
 split at h
 ·next cs =>
  split at h
  ·next q b s e =>
   split at h
   ·next hq =>
    injection h with h
    refine ⟨⟨q.toNat, b, s.data.toList⟩, ?_, h.symm⟩
    have : cs = #[.int .u64 q, .bool b, .string s] := by apply Array.toList_inj.1; exact e
    rw [this, mkSh]
    have e2 : ((q.toNat : Nat) : Int) = q := by omega
    rw [e2]
   ·cases h
  ·cases h
 ·cases h
theorem keyedU : Keyed Tryz.prog 79 := int_keyed Tryz.underlying79
theorem zeroSh (w : World) : (zeroValue 172).run Tryz.prog w = .ok (mkSh ⟨0, false, []⟩) w := by kernel_rfl
theorem wf_u64 (q : Nat) (h : q < 18446744073709551616) : (Lit.int .u64 (q : Int)).wf = true := by
 have hmin : IntKind.u64.min = 0 := rfl
 have hmax : IntKind.u64.max = 18446744073709551615 := rfl
 simp only [Lit.wf, Bool.and_eq_true, decide_eq_true_eq]
 omega
theorem wf_u64' {x : Int} (h : (Lit.int .u64 x).wf = true) : ∃ q : Nat, x = q /\ q < 18446744073709551616 := by
 have hmin : IntKind.u64.min = 0 := rfl
 have hmax : IntKind.u64.max = 18446744073709551615 := rfl
 simp only [Lit.wf, Bool.and_eq_true, decide_eq_true_eq] at h
 exact ⟨x.toNat, by omega, by omega⟩
def SaysF (D : DataW Sh) (F : Nat -> Option Sh) : Prop := ∀ q : Nat, q < 18446744073709551616 -> has D (.int .u64 q) = (F q).isSome /\ ∀ s, F q = some s -> ∀ z, D.atKey (.int .u64 q) z = .held s
def Fm (w : World) (g N : Nat) (F : Nat -> Option Sh) : Prop := ∃ n D, w.ownsMap Tryz.prog 79 rdSh g n D /\ n <= N /\ SaysF D F
section
variable {w : World} {g N : Nat} {F : Nat -> Option Sh}
theorem Fm.lt (h : Fm w g N F) : g < w.heap.size := by
 obtain ⟨n, D, ho, _⟩ := h
 exact ho.lt
theorem Fm.kp {S : Nat -> Prop} {w' : World} (h : Fm w g N F) (hk : Kp S w w') (hn : ¬ S g) : Fm w' g N F := by
 obtain ⟨n, D, ho, r⟩ := h
 have hlt := ho.lt
 obtain ⟨es, clock, hb, r2⟩ := ho
 exact ⟨n, D, ⟨es, clock, (hk.block g hlt hn).trans hb, r2⟩, r⟩
theorem Fm.made (w : World) : Fm (w.alloc (.map #[] 0)) w.heap.size 0 (fun _ => none) :=
 ⟨0, .map [], World.ownsMap_made w _ _ _, Nat.le_refl _, fun _ _ => ⟨rfl, fun s h => by cases h⟩⟩
theorem wpList_putSh {ops : Array Oper} {rest : List Oper} {o : Oper} {a : Act} {Q : Exit -> Act -> World -> Prop} (hg : o.guard = none) (m x v : Operand)
  (hop : o.op = Op.mapUpdate 125 m x v) (hm : a.eval m = .map (some g)) (h : Fm w g N F) (hN : N < 1073741824) (s : Sh) (hq : s.q < 18446744073709551616) (hx : a.eval x = .int .u64 s.q) (hv : a.eval v = mkSh s)
  (hK : ∀ w', Fm w' g (N + 1) (fun q => if q = s.q then some s else F q) -> Kp (fun k => k = g) w w' -> wpList Tryz.prog ops Q rest (a.put o.dst undef) w') :
  wpList Tryz.prog ops Q (o :: rest) a w := by
 obtain ⟨n, D, ho, hn, hD⟩ := h
 refine wpList_mapUpdate_own w hg m x v _ hop 79 172 keyedU Tryz.underlying125 _ g n D hm ho (by simp only [maxLen]; omega) _ _ (.int .u64 s.q) hx hv (keyOf_int_mk Tryz.underlying79 (wf_u64 s.q hq)) _ _ (rdSh_mk s) ?_
 intro w' ho' hgr
 refine hK w' ⟨n + 1, _, ho', by omega, fun q hq2 => ?_⟩ ⟨hgr.os, hgr.tape, hgr.output, hgr.size, fun k hk hs => hgr.block k hk (by simpa using hs)⟩
 have hM := ho.isMap
 dsimp only
 by_cases e : q = s.q
 ·subst e
  rw [if_pos rfl]
  refine ⟨has_put_same hM (show WideAt.IsKeyLit (.int .u64 (s.q : Int)) from trivial) _, fun i hi z => ?_⟩
  injection hi with hi
  subst hi
  exact atKey_put_same hM (show WideAt.IsKeyLit (.int .u64 (s.q : Int)) from trivial) _ _
 ·rw [if_neg e]
  have hne : (Lit.int .u64 (q : Int)) ≠ .int .u64 (s.q : Int) := by
   intro h
   injection h with _ h
   omega
  rw [has_put_other hne]
  refine ⟨(hD q hq2).1, fun t ht z => ?_⟩
  rw [atKey_put_other hne]
  exact (hD q hq2).2 t ht z
theorem wpList_lookSh {ops : Array Oper} {rest : List Oper} {o : Oper} {a : Act} {Q : Exit -> Act -> World -> Prop} (hg : o.guard = none) (m x : Operand)
  (hop : o.op = Op.lookup 125 m x true) (hm : a.eval m = .map (some g)) (h : Fm w g N F) (q : Nat) (hq : q < 18446744073709551616) (hx : a.eval x = .int .u64 q)
  (hn : F q = none -> ∀ s, wpList Tryz.prog ops Q rest (a.put o.dst (.tuple #[mkSh s, .bool false])) w)
  (hs : ∀ s, F q = some s -> wpList Tryz.prog ops Q rest (a.put o.dst (.tuple #[mkSh s, .bool true])) w) :
  wpList Tryz.prog ops Q (o :: rest) a w := by
 obtain ⟨n, D, ho, _, hD⟩ := h
 obtain ⟨h1, h2⟩ := hD q hq
 refine wpList_lookup_own_ok w hg m x _ hop 79 172 keyedU Tryz.underlying125 rdSh (zeroSh w) _ _ (rdSh_mk _) g n D hm ho _ (.int .u64 q) hx (keyOf_int_mk Tryz.underlying79 (wf_u64 q hq)) ?_
 intro v ps hv
 obtain ⟨t, rfl, hz⟩ := rdSh_inv hv
 rw [h1]
 cases hF : F q with
 |none => exact hn hF t
 |some s =>
  have := h2 s hF (.held ⟨0, false, []⟩)
  injection hz with hz _
  rw [this] at hz
  injection hz with hz
  subst hz
  exact hs s hF
structure MaxF (F : Nat -> Option Sh) (D : DataW Sh) (f m : Nat) (left : Lit -> Bool) : Prop where
 sub : ∀ kl, left kl = true -> has D kl = true
 lo : f <= m
 seen : ∀ q s, q < 18446744073709551616 -> F q = some s -> left (.int .u64 q) = false -> (q + 1) % 18446744073709551616 <= m
 is : m = f \/ ∃ q s, F q = some s /\ m = (q + 1) % 18446744073709551616
theorem MaxF.start {D : DataW Sh} (h : SaysF D F) (f : Nat) : MaxF F D f f (has D) :=
 ⟨fun _ h => h, Nat.le_refl _, (fun q s hq hs hl => by have := (h q hq).1; rw [hl, hs] at this; cases this), .inl rfl⟩
theorem MaxF.done {D : DataW Sh} {f m : Nat} {left : Lit -> Bool} (h : MaxF F D f m left) (hb : ∀ q s, F q = some s -> q < 18446744073709551616) (hl : ∀ kl, left kl = false) : IsNext F f m :=
 ⟨h.lo, fun q s hs => h.seen q s (hb q s hs) hs (hl _), h.is⟩
theorem MaxF.step {D : DataW Sh} {f m : Nat} {left : Lit -> Bool} (h : MaxF F D f m left) (hD : SaysF D F) (q : Nat) (hq : q < 18446744073709551616) (hk : left (.int .u64 q) = true) :
  MaxF F D f (max m ((q + 1) % 18446744073709551616)) (fun z => left z && !z.sameKey (.int .u64 q)) := by
 refine ⟨fun kl hl => h.sub kl (by simp at hl; exact hl.1), Nat.le_trans h.lo (Nat.le_max_left _ _), fun q2 s hq2 hs hl => ?_, ?_⟩
 ·simp only [Bool.and_eq_false_iff, Bool.not_eq_false'] at hl
  rcases hl with hl | hl
  ·exact Nat.le_trans (h.seen q2 s hq2 hs hl) (Nat.le_max_left _ _)
  ·have := WideAt.sameKey_eq hl
   injection this with _ this
   have e : q2 = q := by omega
   rw [e]
   exact Nat.le_max_right _ _
 ·rcases Nat.le_total m ((q + 1) % 18446744073709551616) with hm | hm
  ·right
   have h1 := (hD q hq).1
   rw [h.sub _ hk] at h1
   cases hF : F q with
   |none => rw [hF] at h1; cases h1
   |some s => exact ⟨q, s, hF, Nat.max_eq_right hm⟩
  ·rw [Nat.max_eq_left hm]
   exact h.is
end
def foundK (V : Nat -> List UInt8) (n k q : Nat) : Option Sh := if q % n < k then sheetF V n q else none
theorem foundK_zero (V : Nat -> List UInt8) (n : Nat) : foundK V n 0 = fun _ => none := by funext q; simp [foundK]
theorem foundK_all (V : Nat -> List UInt8) (n : Nat) (hn : 0 < n) : foundK V n n = sheetF V n := by funext q; simp [foundK, Nat.mod_lt q hn]
theorem foundK_none {V : Nat -> List UInt8} {n k : Nat} (h : takeS (V (2 + k)) = none) : foundK V n (k + 1) = foundK V n k := by
 funext q
 unfold foundK
 by_cases h1 : q % n < k
 ·rw [if_pos h1, if_pos (by omega)]
 ·rw [if_neg h1]
  by_cases h2 : q % n = k
  ·rw [if_pos (by omega)]; unfold sheetF; rw [h2, h]
  ·rw [if_neg (by omega)]
theorem foundK_far {V : Nat -> List UInt8} {n k : Nat} {s : Sh} (h : takeS (V (2 + k)) = some s) (hs : s.q % n ≠ k) : foundK V n (k + 1) = foundK V n k := by
 funext q
 unfold foundK
 by_cases h1 : q % n < k
 ·rw [if_pos h1, if_pos (by omega)]
 ·rw [if_neg h1]
  by_cases h2 : q % n = k
  ·rw [if_pos (by omega)]
   unfold sheetF
   rw [h2, h]
   dsimp only
   rw [if_neg (fun e => hs (by rw [e]; exact h2))]
  ·rw [if_neg (by omega)]
theorem foundK_put {V : Nat -> List UInt8} {n k : Nat} {s : Sh} (h : takeS (V (2 + k)) = some s) (hs : s.q % n = k) : foundK V n (k + 1) = fun q => if q = s.q then some s else foundK V n k q := by
 funext q
 unfold foundK
 by_cases e : q = s.q
 ·subst e
  rw [if_pos rfl, if_pos (by omega)]
  unfold sheetF
  rw [hs, h]
  simp
 ·rw [if_neg e]
  by_cases h1 : q % n < k
  ·rw [if_pos h1, if_pos (by omega)]
  ·rw [if_neg h1]
   by_cases h2 : q % n = k
   ·rw [if_pos (by omega)]
    unfold sheetF
    rw [h2, h]
    dsimp only
    rw [if_neg (fun e2 => e e2.symm)]
   ·rw [if_neg (by omega)]
end Go.Proofs.YtepaeliamhjgiaaGreatDoor
namespace Go.Proofs.YtepaeliamhjgiaaGreatDoor
open Go.RowKit
def hcs (h : Hd) (a : Nat) : List Value := [.int .u64 h.g, .int .u64 h.f, .int .i64 h.n, .string ⟨h.note.toArray⟩, .int .i64 a]
theorem hcs_one (h : Hd) (a : Nat) : ∀ v ∈ hcs h a, v.oneCell' = true := by
 intro v hv
 simp only [hcs, List.mem_cons, List.not_mem_nil, or_false] at hv
 rcases hv with rfl | rfl | rfl | rfl | rfl <;> rfl
theorem info_head : (Tryz.prog.info? 122).map (·.size) = some 5 := by kernel_rfl
theorem note_size (l : List UInt8) : (⟨l.toArray⟩ : ByteArray).size = l.length := by show l.toArray.size = l.length; simp
theorem wrap_next (n : Nat) : IntKind.u64.wrap ((n : Int) + 1) = (((n + 1) % 18446744073709551616 : Nat) : Int) := by
 simp [IntKind.wrap, IntKind.bits, IntKind.signed]
def secsB (n : Int) : Bool := decide (96 <= n) && decide (n <= 512)
def noteB (l : List UInt8) : Bool := decide (l.length <= 64)
theorem maySectors_any (n : Int) (w : World) :
  Calls Tryz.prog 109 #[.int .i64 n] w fun e w' => e = .returned (.bool (secsB n)) /\ w = w' := by
 have e : secsB n = (decide (96 <= n) && decide (n <= 512)) := rfl
 by_cases h1 : 96 <= n
 ·by_cases h2 : n <= 512
  ·have h3 : ¬ 512 < n := by omega
   rw [show secsB n = true by rw [e]; simp [h1, h2]]
   clear e
   go_enter Tryz.func109, Tryz.ntmps109
   go_wp2_with fail
   go_ret
   exact ⟨rfl, rfl⟩
  ·have h3 : 512 < n := by omega
   rw [show secsB n = false by rw [e]; simp [h2]]
   clear e
   go_enter Tryz.func109, Tryz.ntmps109
   go_wp2_with fail
   go_ret
   exact ⟨rfl, rfl⟩
 ·have h3 : n < 96 := by omega
  rw [show secsB n = false by rw [e]; simp [h1]]
  clear e
  go_enter Tryz.func109, Tryz.ntmps109
  go_wp2_with fail
  go_ret
  exact ⟨rfl, rfl⟩
theorem mayNote_any (l : List UInt8) (w : World) :
  Calls Tryz.prog 110 #[.string ⟨l.toArray⟩] w fun e w' => e = .returned (.bool (noteB l)) /\ w = w' := by
 have hs := note_size l
 by_cases h1 : l.length <= 64
 ·have hd : decide ((l.length : Int) <= 64) = true := by simp; omega
  rw [show noteB l = true by simp [noteB, h1]]
  clear hs
  go_enter Tryz.func110, Tryz.ntmps110
  go_wp2_with fail
  go_ret
  exact ⟨rfl, rfl⟩
 ·have hd : decide ((l.length : Int) <= 64) = false := by simp; omega
  rw [show noteB l = false by simp [noteB, h1]]
  clear hs
  go_enter Tryz.func110, Tryz.ntmps110
  go_wp2_with fail
  go_ret
  exact ⟨rfl, rfl⟩
theorem place_any (q n : Nat) (w : World) (_hq : q < 18446744073709551616) (h0 : 0 < n) (hn : n <= 512) :
  Calls Tryz.prog 136 #[.int .u64 q, .int .i64 n] w fun e w' => e = .returned (.int .i64 ((2 + q % n : Nat) : Int)) /\ w = w' := by
 have hm := Nat.mod_lt q h0
 have hw : IntKind.u64.wrap (n : Int) = (n : Int) := IntWalk.u64_in _ (by omega)
 clear _hq
 go_enter Tryz.func136, Tryz.ntmps136
 go_wp2_with fail
 go_ret
 refine ⟨?_, rfl⟩
 rw [Int.natCast_add, Int.natCast_emod]
 rfl
theorem follow_any (h : Hd) (a f : Nat) (w : World) (ha : a <= 1) :
  Calls Tryz.prog 102 #[.agg (hcs h a).toArray, .int .u64 f] w fun e w' => e = .returned (.agg (hcs ⟨(h.g + 1) % 18446744073709551616, f, h.n, h.note⟩ (1 - a)).toArray) /\ Kp (fun _ => False) w w' := by
 obtain ⟨Hr⟩ : Nonempty (Hid (Tryz.f102.results = #[.cell 4 122])) := ⟨hHd rfl⟩
 simp only [hcs]
 go_enter Tryz.func102, Tryz.ntmps102
 go_wp2_with fail
 have e1 : IntKind.u64.wrap ((h.g : Int) + 1) = (((h.g + 1) % 18446744073709551616 : Nat) : Int) := wrap_next h.g
 have e2 : ((1 - a : Nat) : Int) = 1 - (a : Int) := by omega
 rw [e2, <- e1]
 refine bodyPost_ret (v := .agg #[.int .u64 (IntKind.u64.wrap ((h.g : Int) + 1)), .int .u64 f, .int .i64 h.n, .string ⟨h.note.toArray⟩, .int .i64 (1 - (a : Int))]) ?_ rfl ⟨rfl, ((Kp.refl _ w).alloc _).alloc _⟩
 have hb := Box.new (w.alloc (.cells #[.int .u64 (IntKind.u64.wrap ((h.g : Int) + 1)), .int .u64 f, .int .i64 h.n, .string ⟨h.note.toArray⟩, .int .i64 (1 - (a : Int))] 122)) 122 #[.int .u64 (IntKind.u64.wrap ((h.g : Int) + 1)), .int .u64 f, .int .i64 h.n, .string ⟨h.note.toArray⟩, .int .i64 (1 - (a : Int))]
 rw [World.size_alloc] at hb
 exact results_cell_row Hr.out _ _ (w.heap.size + 1) 122 _ (0, 0) _ rfl hb Tryz.underlying122 rfl info_head
def lcs (b : Nat) (l : Lm) : Array Value := #[.pointer (some ⟨b, 0, none⟩), .int .u64 l.h.g, .int .u64 l.h.f, .int .i64 l.h.n, .string ⟨l.h.note.toArray⟩, .int .i64 l.a, .int .u64 l.next, .int .i64 l.left, .bool l.dead]
theorem ready_any (g b : Nat) (l : Lm) (w : World) (h : Box w g 130 (lcs b l)) :
  Calls Tryz.prog 101 #[.pointer (some ⟨g, 0, none⟩)] w fun e w' => e = .returned (.int .i64 (if l.dead then 4 else 0)) /\ w = w' := by
 have h8 := h.cell 8
 simp only [lcs] at h8
 clear h
 obtain ⟨dd, hdd⟩ : ∃ dd, l.dead = dd := ⟨_, rfl⟩
 rw [hdd] at h8 ⊢
 clear hdd
 rcases dd with _ | _
 all_goals
  simp at h8
  go_enter Tryz.func101, Tryz.ntmps101
  go_wp2_with fail
  go_ret
  exact ⟨rfl, rfl⟩
theorem hear_any (g b : Nat) (l : Lm) (e0 : Int) (w : World) (h : Box w g 130 (lcs b l)) :
  Calls Tryz.prog 103 #[.pointer (some ⟨g, 0, none⟩), .int .i64 e0] w fun e w' => e = .returned (.int .i64 e0) /\ Box w' g 130 (lcs b { l with dead := l.dead || e0 == 4 }) /\ Kp (fun k => k = g) w w' := by
 have h8 := h.cell 8
 have f8 := h.free 8
 have hp := fun u => h.put 8 u
 simp only [lcs] at h8 hp
 obtain ⟨dd, hdd⟩ : ∃ dd, l.dead = dd := ⟨_, rfl⟩
 rw [hdd] at h8 hp
 obtain ⟨ee, hee⟩ : ∃ ee, (e0 == 4) = ee := ⟨_, rfl⟩
 have HP := hHd hp
 have HD := hHd hdd
 have HE := hHd hee
 clear h hp hdd
 rcases dd with _ | _
 all_goals
  simp at h8
  go_enter Tryz.func103, Tryz.ntmps103
  go_wp2_with fail
  go_ret
  refine ⟨rfl, ?_, Kp.one _ _ _ _⟩
  simp only [lcs, HD.out, HE.out]
  exact HP.out _
end Go.Proofs.YtepaeliamhjgiaaGreatDoor
