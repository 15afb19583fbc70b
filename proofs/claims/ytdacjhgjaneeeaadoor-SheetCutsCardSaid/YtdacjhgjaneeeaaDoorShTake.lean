/- What sheet.Take answers: the sheet of a sector, or a zero one and the error. Conditions: the table of half bytes reads as the program's text lays it; at most 2^47 bytes. -/
import Derived.Test.YtdacjhgjaneeeaaDoorShTakeA
namespace Go.Proofs.YtdacjhgjaneeeaaDoor
open Go.RowKit

/-- A sheet as a value, and what Take answers. -/
def shV (s : Sh) : Value := sv s.q s.last ⟨s.t.toArray⟩
def takeV (l : List UInt8) : Value := match takeS l with
  | some s => .tuple #[shV s, .int .i64 0]
  | none => .tuple #[sv 0 false ⟨#[]⟩, .int .i64 3]
theorem take_results : Tryd.f10.results = #[.cell 2 30, .tmp 3] := rfl
theorem takeV_none {l : List UInt8} (h : takeS l = none) : takeV l = .tuple #[sv 0 false ⟨#[]⟩, .int .i64 3] := by rw [takeV, h]
theorem takeV_some {l : List UInt8} {s : Sh} (h : takeS l = some s) : takeV l = .tuple #[shV s, .int .i64 0] := by rw [takeV, h]

set_option maxRecDepth 100000 in
set_option maxHeartbeats 1000000 in
theorem take_odd (A : Option Addr) (c n : Nat) (l : List UInt8) (w : World) (h : Rd w A l) (ht : Tbl w) (hl : l.length = n) (hn : n ≠ 512) :
    Calls Tryd.prog 10 #[.slice A n c] w fun e w' => e = .returned (takeV l) ∧ Kp (fun _ => False) w w' := by
  have hnn : ((n : Int) != 512) = true := by simp; omega
  rw [takeV_none (by unfold takeS; rw [if_neg (by omega)])]
  clear hn
  have H := Lib.hid h
  have HT := Lib.hid ht
  have B2 := Lib.hid (Box.new w 30 #[.int .u64 0, .bool false, .string ⟨#[]⟩])
  have K0 := Lib.hid ((Kp.refl (fun _ => False) w).alloc (.cells #[.int .u64 0, .bool false, .string ⟨#[]⟩] 30))
  have hz : (w.alloc (.cells #[.int .u64 0, .bool false, .string ⟨#[]⟩] 30)).heap.size = w.heap.size + 1 := by simp
  have HL := Lib.hid hl
  clear h ht hl
  go_enter Tryd.func10, Tryd.ntmps10
  go_upto_region 1 with fail
  generalize w.alloc (.cells #[.int .u64 0, .bool false, .string ⟨#[]⟩] 30) = w0 at *
  go_wp2_with (first | (refine wpList_store_box rfl 30 (.tmp 2) (.tmp 11) rfl w.heap.size [.int .u64 0, .bool false, .string ⟨#[]⟩] rfl rfl B2.out rfl info_sheet (sh_one _ _ _) ?_; intro W hb hk) | fail)
  have KF : Kp (fun _ => False) w W := K0.out.trans_new hk (fun b e => .inl (by omega))
  refine bodyPost_ret (v := .tuple #[sv 0 false ⟨#[]⟩, .int .i64 3]) ?_ rfl ⟨rfl, KF⟩
  exact results_two take_results _ _ w.heap.size 30 _ (0, 0) _ rfl hb Tryd.underlying30 rfl info_sheet

set_option maxRecDepth 100000 in
set_option maxHeartbeats 2000000 in
theorem take_whole (A : Option Addr) (c : Nat) (l : List UInt8) (w : World) (h : Rd w A l) (ht : Tbl w) (hl : l.length = 512) :
    Calls Tryd.prog 10 #[.slice A 512 c] w fun e w' => e = .returned (takeV l) ∧ Kp (fun _ => False) w w' := by
  have H := Lib.hid h
  have HT := Lib.hid ht
  have B2 := Lib.hid (Box.new w 30 #[.int .u64 0, .bool false, .string ⟨#[]⟩])
  have K0 := Lib.hid ((Kp.refl (fun _ => False) w).alloc (.cells #[.int .u64 0, .bool false, .string ⟨#[]⟩] 30))
  have hz : (w.alloc (.cells #[.int .u64 0, .bool false, .string ⟨#[]⟩] 30)).heap.size = w.heap.size + 1 := by simp
  have HL := Lib.hid hl
  clear h ht hl
  go_enter Tryd.func10, Tryd.ntmps10
  go_upto_region 1 with fail
  generalize w.alloc (.cells #[.int .u64 0, .bool false, .string ⟨#[]⟩] 30) = w0 at *
  go_wp2_with fail
  refine (of_any (fun k => w.heap.size + 1 ≤ k) w0 (fun k hk => by omega) A 512 c l HL.out (H.out.kp K0.out (fun _ _ e => e)) (by rw [HL.out]; decide)).mono ?_
  rintro e w1 ⟨o, rfl, hob, ho, hk⟩
  have O1 := Lib.hid ho
  have K1 := Lib.hid (K0.out.trans hk)
  have B1 := Lib.hid (B2.out.kp hk (fun e => e))
  clear ho hk
  go_wp2_with fail
  refine (take_fine O1.out 8 rfl (by rw [HL.out]; decide)).mono ?_
  rintro e w2 ⟨rfl, ho, hk⟩
  have O2 := Lib.hid ho
  have B2 := Lib.hid (B1.out.kp hk (fun e => by omega))
  have K2 := Lib.hid (K1.out.trans_new hk (fun b e => .inl (by omega)))
  clear ho hk
  obtain ⟨q, hq⟩ : ∃ q, numN (l.take 8) = q := ⟨_, rfl⟩
  rw [hq]
  have HQ := Lib.hid hq
  clear hq
  go_wp2_with fail
  refine (take_fine O2.out 1 rfl (by rw [List.length_drop, HL.out]; decide)).mono ?_
  rintro e w3 ⟨rfl, ho, hk⟩
  rw [List.drop_drop] at ho
  have O3 := Lib.hid ho
  have B3 := Lib.hid (B2.out.kp hk (fun e => by omega))
  have K3 := Lib.hid (K2.out.trans_new hk (fun b e => .inl (by omega)))
  clear ho hk
  obtain ⟨k, hk0⟩ : ∃ k, numN ((l.drop 8).take 1) = k := ⟨_, rfl⟩
  rw [hk0]
  obtain ⟨kb, hkb⟩ : ∃ kb, tl l = kb := ⟨_, rfl⟩
  have hb2 : (((k : Nat) : Int) == 2) = kb := by
    rw [← hkb, tl, hk0]
    by_cases h2 : k = 2
    · subst h2; rfl
    · rw [decide_eq_false h2]; simp; omega
  have HK0 := Lib.hid hk0
  have HKB := Lib.hid hkb
  clear hk0 hkb
  have B5 := Lib.hid (Box.new w3 30 #[.int .u64 q, .bool kb, .string ⟨#[]⟩])
  have B4 := Lib.hid (B3.out.alloc (.cells #[.int .u64 q, .bool kb, .string ⟨#[]⟩] 30))
  have K4 := Lib.hid (K3.out.alloc (.cells #[.int .u64 q, .bool kb, .string ⟨#[]⟩] 30))
  have O4 := Lib.hid ((O3.out.old.mono (G' := fun k => w.heap.size + 1 ≤ k ∧ k ≠ w3.heap.size) (fun k e => ⟨e.1, by omega⟩)).kp (((Kp.refl (fun _ => False) w3).alloc (.cells #[.int .u64 q, .bool kb, .string ⟨#[]⟩] 30))) (fun _ _ e => e))
  have hgo : w.heap.size < w3.heap.size := B3.out.lt
  have hgl := B5.out.lt
  have hol : o < w3.heap.size := (O3.out.old).1.2
  go_wp2_with fail
  generalize w3.alloc (.cells #[.int .u64 q, .bool kb, .string ⟨#[]⟩] 30) = w4 at *
  generalize w3.heap.size = g at *
  clear hb2
  refine (take_fine O4.out 2 rfl (by rw [List.length_drop, HL.out]; decide)).mono ?_
  rintro e w5 ⟨rfl, ho, hk⟩
  rw [List.drop_drop] at ho
  have O5 := Lib.hid ho
  have B5a := Lib.hid (B5.out.kp hk (fun e => by omega))
  have B5b := Lib.hid (B4.out.kp hk (fun e => by omega))
  have K5 := Lib.hid (K4.out.trans_new hk (fun b e => .inl (by omega)))
  clear ho hk
  obtain ⟨n, hn⟩ : ∃ n, tn l = n := ⟨_, rfl⟩
  rw [show numN ((l.drop 9).take 2) = n from hn]
  have hnl : n < 65536 := by
    rw [← hn, tn]
    have := numN_lt ((l.drop 9).take 2)
    rw [List.length_take, List.length_drop, HL.out] at this
    exact this
  have HN := Lib.hid hn
  clear hn
  have hwn : IntKind.i64.wrap (n : Int) = n := IntWalk.i64_in _ (by omega)
  go_wp2_with fail
  have hq64 : q < 18446744073709551616 := by
    rw [← HQ.out]
    exact numN_lt8 _ (by rw [List.length_take]; omega)
  by_cases hn1 : n ≤ 501
  · refine (otext_fine O5.out n (by rw [List.length_drop, HL.out]; omega)).mono ?_
    rintro e w6 ⟨rfl, ho, hk⟩
    have B6 := Lib.hid (B5a.out.kp hk (fun e => by omega))
    have R6 := Lib.hid (B5b.out.kp hk (fun e => by omega))
    have K6 := Lib.hid (K5.out.trans_new hk (fun b e => .inl (by omega)))
    have O6 := Lib.hid ho
    clear ho hk
    obtain ⟨tx, htx⟩ : ∃ tx, tt l = tx := ⟨_, rfl⟩
    have htx' : (l.drop (8 + 1 + 2)).take n = tx := by rw [← htx, tt, HN.out]
    rw [htx']
    have htl : tx.length = n := by rw [← htx', List.length_take, List.length_drop, HL.out]; omega
    have HTX := Lib.hid htx
    have HTL := Lib.hid htl
    clear htx htx' htl
    have c2 := B6.out.cell 2
    have f2 := B6.out.free 2
    simp at c2
    have P6 := B6.out.put 2 (.string ⟨tx.toArray⟩)
    simp only [List.setIfInBounds_toArray, List.set_cons_succ, List.set_cons_zero] at P6
    have B7 := Lib.hid P6
    have R7 := Lib.hid (R6.out.kp (Kp.one w6 g 2 (.string ⟨tx.toArray⟩)) (fun e => by omega))
    have K7 := Lib.hid (K6.out.setCell (p := ⟨g, 2, none⟩) (.inl (by show w.heap.size ≤ g; omega)) (.string ⟨tx.toArray⟩))
    have O7 := Lib.hid (O6.out.kp (Kp.one w6 g 2 (.string ⟨tx.toArray⟩)) (fun k e1 e2 => by omega))
    clear P6
    go_upto_region 6 with fail
    generalize w6.setCell ⟨g, 2, none⟩ (.string ⟨tx.toArray⟩) = w7 at *
    clear c2 f2
    go_wp2_with (first | (refine wpList_load_mid rfl 30 (.tmp 5) rfl g 0 rfl [.int .u64 q, .bool kb, .string ⟨tx.toArray⟩] _ (Box.range' (L := [.int .u64 q, .bool kb, .string ⟨tx.toArray⟩]) B7.out) Tryd.underlying30 rfl info_sheet ?_) | fail)

    by_cases hn2 : n ≤ 497
    · have hsz : (⟨tx.toArray⟩ : ByteArray).size = n := by rw [← HTL.out]; show tx.toArray.size = tx.length; simp
      refine (put_fits q kb ⟨tx.toArray⟩ w7 hq64 (by rw [hsz]; exact hn2) (HT.out.kp K7.out (fun e => e))).mono ?_
      clear hsz
      rintro e w8 ⟨A8, c8, rfl, h81, h82, hr8, ha8, hk⟩
      have hsz7 := B7.out.lt
      have hol7 : o < w7.heap.size := by omega
      have HR8 := Lib.hid hr8
      have HA8 := Lib.hid ha8
      clear hr8 ha8
      have B8 := Lib.hid (B7.out.kp hk (fun e => e))
      have R8 := Lib.hid (R7.out.kp hk (fun e => e))
      have K8 := Lib.hid (K7.out.trans hk)
      have O8 := Lib.hid (O7.out.kp hk (fun _ _ e => e))
      clear hk
      go_wp2_with fail
      refine (err_fine O8.out).mono ?_
      rintro e w9 ⟨rfl, _, hk⟩
      have B9 := Lib.hid (B8.out.kp hk (fun e => by omega))
      have R9 := Lib.hid (R8.out.kp hk (fun e => by omega))
      have K9 := Lib.hid (K8.out.trans_new hk (fun b e => .inl (by omega)))
      have HK89 := Lib.hid hk
      clear hk

      have HA := Lib.hid (H.out.kp K9.out (fun _ _ e => e))
      have HR9 := Lib.hid (HR8.out.kp HK89.out (fun a ha => by have := HA8.out a ha; omega))
      have hsl := Lib.hid (secL_length q kb tx (by rw [HTL.out]; exact hn2))
      go_wp2_with fail
      refine (equal_any A A8 c c8 512 512 l (secL q kb tx) w9 HL.out hsl.out HA.out HR9.out).mono ?_
      rintro e w10 ⟨rfl, rfl⟩
      by_cases heq : l = secL q kb tx
      · have hE : (l == secL q kb tx) = true := by rw [← heq]; simp
        rw [hE]
        have HV := Lib.hid (takeV_some (l := l) (s := ⟨q, kb, tx⟩) (by unfold takeS; rw [show tq l = q from HQ.out, HKB.out, HTX.out, HN.out, if_pos ⟨HL.out, hn2, heq.symm⟩]))
        clear hE heq
        go_wp2_with (first | (refine wpList_load_mid rfl 30 (.tmp 5) rfl g 0 rfl [.int .u64 q, .bool kb, .string ⟨tx.toArray⟩] _ (Box.range' (L := [.int .u64 q, .bool kb, .string ⟨tx.toArray⟩]) B9.out) Tryd.underlying30 rfl info_sheet ?_) | (refine wpList_store_box rfl 30 (.tmp 2) (.tmp 45) rfl w.heap.size [.int .u64 q, .bool kb, .string ⟨tx.toArray⟩] rfl rfl R9.out rfl info_sheet (sh_one _ _ _) ?_; intro W hb hk) | fail)
        have KF : Kp (fun _ => False) w W := K9.out.trans_new hk (fun b e => .inl (by omega))
        rw [HV.out]
        refine bodyPost_ret (v := .tuple #[sv q kb ⟨tx.toArray⟩, .int .i64 0]) ?_ rfl ⟨rfl, KF⟩
        exact results_two take_results _ _ w.heap.size 30 _ (0, 0) _ rfl hb Tryd.underlying30 rfl info_sheet
      · have hE : (l == secL q kb tx) = false := by simpa using heq
        rw [hE]
        have HV := Lib.hid (takeV_none (l := l) (by unfold takeS; rw [show tq l = q from HQ.out, HKB.out, HTX.out, HN.out, if_neg (fun h => heq h.2.2.symm)]))
        clear hE heq
        go_wp2_with (first | (refine wpList_store_box rfl 30 (.tmp 2) (.tmp 44) rfl w.heap.size [.int .u64 0, .bool false, .string ⟨#[]⟩] rfl rfl R9.out rfl info_sheet (sh_one _ _ _) ?_; intro W hb hk) | fail)
        have KF : Kp (fun _ => False) w W := K9.out.trans_new hk (fun b e => .inl (by omega))
        rw [HV.out]
        refine bodyPost_ret (v := .tuple #[sv 0 false ⟨#[]⟩, .int .i64 3]) ?_ rfl ⟨rfl, KF⟩
        exact results_two take_results _ _ w.heap.size 30 _ (0, 0) _ rfl hb Tryd.underlying30 rfl info_sheet

    · refine (put_long q kb ⟨tx.toArray⟩ w7 (by have : (⟨tx.toArray⟩ : ByteArray).size = n := by rw [← HTL.out]; show tx.toArray.size = tx.length; simp
                                                omega)).mono ?_
      rintro e w8 ⟨rfl, hk⟩
      have HV := Lib.hid (takeV_none (l := l) (by unfold takeS; rw [HN.out, if_neg (by omega)]))
      have B8 := Lib.hid (B7.out.kp hk (fun e => e))
      have R8 := Lib.hid (R7.out.kp hk (fun e => e))
      have K8 := Lib.hid (K7.out.trans hk)
      have O8 := Lib.hid (O7.out.kp hk (fun _ _ e => e))
      clear hk
      go_wp2_with fail
      refine (err_fine O8.out).mono ?_
      rintro e w9 ⟨rfl, _, hk⟩
      have B9 := Lib.hid (B8.out.kp hk (fun e => by omega))
      have R9 := Lib.hid (R8.out.kp hk (fun e => by omega))
      have K9 := Lib.hid (K8.out.trans_new hk (fun b e => .inl (by omega)))
      clear hk
      go_wp2_with (first | (refine wpList_store_box rfl 30 (.tmp 2) (.tmp 44) rfl w.heap.size [.int .u64 0, .bool false, .string ⟨#[]⟩] rfl rfl R9.out rfl info_sheet (sh_one _ _ _) ?_; intro W hb hk) | fail)
      have KF : Kp (fun _ => False) w W := K9.out.trans_new hk (fun b e => .inl (by omega))
      rw [HV.out]
      refine bodyPost_ret (v := .tuple #[sv 0 false ⟨#[]⟩, .int .i64 3]) ?_ rfl ⟨rfl, KF⟩
      exact results_two take_results _ _ w.heap.size 30 _ (0, 0) _ rfl hb Tryd.underlying30 rfl info_sheet

  · have hg5 := B5a.out.lt
    refine (otext_short O5.out ⟨by omega, by omega⟩ n (.inr (by rw [List.length_drop, HL.out]; omega))).mono ?_
    rintro e w6 ⟨rfl, ho, hk⟩
    have B6 := Lib.hid (B5a.out.kp hk (fun e => by omega))
    have R6 := Lib.hid (B5b.out.kp hk (fun e => by omega))
    have K6 := Lib.hid (K5.out.trans_new hk (fun b e => .inl (by omega)))
    have O6 := Lib.hid ho
    clear ho hk
    have c2 := B6.out.cell 2
    have f2 := B6.out.free 2
    simp at c2
    have P6 := B6.out.put 2 (.string ⟨#[]⟩)
    simp only [List.setIfInBounds_toArray, List.set_cons_succ, List.set_cons_zero] at P6
    have B7 := Lib.hid P6
    have R7 := Lib.hid (R6.out.kp (Kp.one w6 g 2 (.string ⟨#[]⟩)) (fun e => by omega))
    have K7 := Lib.hid (K6.out.setCell (p := ⟨g, 2, none⟩) (.inl (by show w.heap.size ≤ g; omega)) (.string ⟨#[]⟩))
    have O7 := Lib.hid (O6.out.kp (Kp.one w6 g 2 (.string ⟨#[]⟩)) (fun k e1 e2 => by omega))
    clear P6
    go_upto_region 6 with fail
    generalize w6.setCell ⟨g, 2, none⟩ (.string ⟨#[]⟩) = w7 at *
    clear c2 f2
    go_wp2_with (first | (refine wpList_load_mid rfl 30 (.tmp 5) rfl g 0 rfl [.int .u64 q, .bool kb, .string ⟨#[]⟩] _ (Box.range' (L := [.int .u64 q, .bool kb, .string ⟨#[]⟩]) B7.out) Tryd.underlying30 rfl info_sheet ?_) | fail)

    refine (put_fits q kb ⟨#[]⟩ w7 hq64 (by decide) (HT.out.kp K7.out (fun e => e))).mono ?_
    rintro e w8 ⟨A8, c8, rfl, h81, h82, _, _, hk⟩
    have HV := Lib.hid (takeV_none (l := l) (by unfold takeS; rw [HN.out, if_neg (by omega)]))
    have B8 := Lib.hid (B7.out.kp hk (fun e => e))
    have R8 := Lib.hid (R7.out.kp hk (fun e => e))
    have K8 := Lib.hid (K7.out.trans hk)
    have O8 := Lib.hid (O7.out.kp hk (fun _ _ e => e))
    clear hk
    go_wp2_with fail

    refine (err_failed O8.out).mono ?_
    rintro e w9 ⟨rfl, hk⟩
    have B9 := Lib.hid (B8.out.kp hk (fun e => e))
    have R9 := Lib.hid (R8.out.kp hk (fun e => e))
    have K9 := Lib.hid (K8.out.trans hk)
    clear hk
    go_wp2_with (first | (refine wpList_store_box rfl 30 (.tmp 2) (.tmp 44) rfl w.heap.size [.int .u64 0, .bool false, .string ⟨#[]⟩] rfl rfl R9.out rfl info_sheet (sh_one _ _ _) ?_; intro W hb hk) | fail)
    have KF : Kp (fun _ => False) w W := K9.out.trans_new hk (fun b e => .inl (by omega))
    rw [HV.out]
    refine bodyPost_ret (v := .tuple #[sv 0 false ⟨#[]⟩, .int .i64 3]) ?_ rfl ⟨rfl, KF⟩
    exact results_two take_results _ _ w.heap.size 30 _ (0, 0) _ rfl hb Tryd.underlying30 rfl info_sheet


theorem take_any (A : Option Addr) (c n : Nat) (l : List UInt8) (w : World) (h : Rd w A l) (ht : Tbl w) (hl : l.length = n) :
    Calls Tryd.prog 10 #[.slice A n c] w fun e w' => e = .returned (takeV l) ∧ Kp (fun _ => False) w w' := by
  by_cases hn : n = 512
  · subst hn
    exact take_whole A c l w h ht hl
  · exact take_odd A c n l w h ht hl hn
end Go.Proofs.YtdacjhgjaneeeaaDoor
