/- The document's own sheet of bytes. Condition: at most 2^20 bytes. -/
import Derived.Test.YtfcljcikajaedaaGreatDoorMg3
import Derived.Test.YtfcljcikajaedaaGreatDoorMg26
import Derived.Test.YtfcljcikajaedaaGreatDoorMg4
namespace Go.Proofs.YtfcljcikajaedaaGreatDoor
open Go.RowKit

theorem info_rsheet : (Tryz.prog.info? 102).map (·.size) = some 3 := by kernel_rfl
theorem rtake_results : Tryz.f111.results = #[.cell 2 102, .tmp 3] := rfl
theorem wp_store_box {P : Program} {op : Oper} {a : Act} {w : World} {K : Act → World → Prop} {Q : Exit → Act → World → Prop} (ty : TypeId) (x y : Operand) (ho : op.op = .store ty x y)
    (g : Nat) (cs : List Value) (hx : a.eval x = .pointer (some ⟨g, 0, none⟩)) (hy : a.eval y = .agg cs.toArray) {t : TypeId} {old : Array Value} (hb : Box w g t old) (hs : old.size = cs.length)
    (hi : (P.info? ty).map (·.size) = some cs.length) (h1 : ∀ v ∈ cs, v.oneCell' = true)
    (h : ∀ W, Box W g t cs.toArray → Kp (fun k => k = g) w W → K (a.put op.dst undef) W) : op.wp P a w K Q := by
  have hb' : Box w g t old.toList.toArray := hb
  refine wp_store_mid ty x y ho g 0 cs.toArray hx hy ?_ (by simpa using hi) (all_oneCell_toArray h1) ?_
  · have := hb'.there
    simp only [List.size_toArray, Array.length_toList] at this ⊢
    rw [← hs]
    exact this
  · refine h _ ?_ (Kp.setCells _ 0 w (Kp.refl _ w) (.inr rfl))
    exact hb'.write (by simpa using hs.symm)
theorem ext_mid (l : List UInt8) (a b : Nat) : (⟨l.toArray⟩ : ByteArray).extract a b = ⟨((l.drop a).take (b - a)).toArray⟩ := by
  apply ByteArray.ext
  simp [ByteArray.data_extract]

set_option maxRecDepth 100000 in
set_option maxHeartbeats 1000000 in
theorem rtake_odd (s : ByteArray) (w : World) (hn : s.size ≠ 512) :
    Calls Tryz.prog 111 #[.string s] w fun e w' => e = .returned (.tuple #[sv 0 false ⟨#[]⟩, .int .i64 3]) ∧ Kp (fun _ => False) w w' := by
  have hnn : ((s.size : Int) != 512) = true := by simp; omega
  have B0 := Lib.hid (Box.new w 102 #[.int .u64 0, .bool false, .string ⟨#[]⟩])
  have K0 := Lib.hid ((Kp.refl (fun _ => False) w).alloc (.cells #[.int .u64 0, .bool false, .string ⟨#[]⟩] 102))
  have hz : (w.alloc (.cells #[.int .u64 0, .bool false, .string ⟨#[]⟩] 102)).heap.size = w.heap.size + 1 := by simp
  go_enter Tryz.func111, Tryz.ntmps111
  go_upto_region 1 with fail
  generalize w.alloc (.cells #[.int .u64 0, .bool false, .string ⟨#[]⟩] 102) = w0 at *
  go_wp2_with (first | (refine wpList_store_box rfl 102 (.tmp 2) (.tmp 9) rfl w.heap.size [.int .u64 0, .bool false, .string ⟨#[]⟩] rfl rfl B0.out rfl info_rsheet (sh_one _ _ _) ?_; intro W hb hk) | fail)
  have KF : Kp (fun _ => False) w W := K0.out.trans_new hk (fun b e => .inl (by omega))
  refine bodyPost_ret (v := .tuple #[sv 0 false ⟨#[]⟩, .int .i64 3]) ?_ rfl ⟨rfl, KF⟩
  exact results_two rtake_results _ _ w.heap.size 102 _ (0, 0) _ rfl hb Tryz.underlying102 rfl info_rsheet


set_option maxRecDepth 100000 in
set_option maxHeartbeats 2000000 in
theorem rtake_whole (l : List UInt8) (w : World) (hl : l.length = 512) :
    Calls Tryz.prog 111 #[.string ⟨l.toArray⟩] w fun e w' => e = .returned (takeV l) ∧ Kp (fun _ => False) w w' := by
  obtain ⟨s, hs⟩ : ∃ s : ByteArray, ⟨l.toArray⟩ = s := ⟨_, rfl⟩
  have hsz : s.size = 512 := by rw [← hs]; show l.toArray.size = 512; simpa using hl
  obtain ⟨p2, hp2⟩ : ∃ p, (l.drop 9).take 2 = p := ⟨_, rfl⟩
  obtain ⟨p8, hp8⟩ : ∃ p, l.take 8 = p := ⟨_, rfl⟩
  have hx2 : s.extract 9 11 = ⟨p2.toArray⟩ := by rw [← hs, ext_mid, ← hp2]
  have hx8 : s.extract 0 8 = ⟨p8.toArray⟩ := by rw [← hs, ext_mid, ← hp8]; rfl
  obtain ⟨k, hk⟩ : ∃ k, numN ((l.drop 8).take 1) = k := ⟨_, rfl⟩
  have hk8 : (l[8]'(by omega)).toNat = k := by
    rw [← hk]
    have : (l.drop 8).take 1 = [l[8]'(by omega)] := by rw [List.drop_eq_getElem_cons (by omega)]; rfl
    rw [this]
    simp [numN]
  have hidx : ∀ w : World, (Instr.index 9 (.string s) (.int .i64 8)).run Tryz.prog w = .ok (.int .u8 (k : Int)) w := by
    intro w
    rw [run_index_string (h := Tryz.underlying9)]
    have h8 : (0 : Int) ≤ 8 ∧ (8 : Int) < s.size := ⟨by decide, by rw [hsz]; decide⟩
    rw [dif_pos h8]
    have e : s[Int.toNat 8]'(by rw [hsz]; decide) = l[8]'(by omega) := by subst hs; rfl
    rw [← hk8, ← e]
  obtain ⟨n, hn⟩ : ∃ n, tn l = n := ⟨_, rfl⟩
  have hnp : numN p2 = n := by rw [← hn, tn, hp2]
  have hn16 : n < 65536 := by
    rw [← hnp]
    have := numN_lt p2
    rw [← hp2] at this ⊢
    rw [List.length_take, List.length_drop, hl] at this
    exact this
  have hwn : IntKind.i64.wrap (n : Int) = n := IntWalk.i64_in _ (by omega)
  obtain ⟨tx, htx⟩ : ∃ tx, tt l = tx := ⟨_, rfl⟩
  have hxt : s.extract 11 (11 + n) = ⟨tx.toArray⟩ := by rw [← hs, ext_mid, ← htx, tt, hn, Nat.add_sub_cancel_left]
  have htl : n ≤ 497 → tx.length = n := by intro h; rw [← htx, tt, hn, List.length_take, List.length_drop, hl]; omega
  have hp2l : p2.length ≤ 8 := by rw [← hp2]; simp; omega
  have hp8l : p8.length ≤ 8 := by rw [← hp8]; simp; omega
  obtain ⟨q, hq⟩ : ∃ q, numN p8 = q := ⟨_, rfl⟩
  have hq64 : q < 18446744073709551616 := by rw [← hq]; exact numN_lt8 p8 hp8l
  have HTQ := Lib.hid (show tq l = q by rw [← hq, tq, hp8])
  have HKL := Lib.hid (show tl l = decide (k = 2) by rw [tl, hk])
  have HN := Lib.hid hn
  have HTX := Lib.hid htx
  have HTL := Lib.hid htl
  have HL := Lib.hid hl
  have HP8 := Lib.hid hp8l
  have HQ := Lib.hid hq
  have HS := Lib.hid hs
  have hnone : 497 < n → takeS l = none := fun h => by unfold takeS; rw [hn, if_neg (by omega)]
  have hkind : k ≠ 1 → k ≠ 2 → takeS l = none := fun h1 h2 => takeS_kind (by rw [hk]; exact h1) (by rw [hk]; exact h2)
  have HNone := Lib.hid hnone
  have HKind := Lib.hid hkind
  rw [hs]
  clear hnone hkind hn htx htl hp8l hq hs hk8 hk hp8 hp2 hl
  have B0 := Lib.hid (Box.new w 102 #[.int .u64 0, .bool false, .string ⟨#[]⟩])
  have K0 := Lib.hid ((Kp.refl (fun _ => False) w).alloc (.cells #[.int .u64 0, .bool false, .string ⟨#[]⟩] 102))
  have hz : (w.alloc (.cells #[.int .u64 0, .bool false, .string ⟨#[]⟩] 102)).heap.size = w.heap.size + 1 := by simp
  go_enter Tryz.func111, Tryz.ntmps111
  go_upto_region 1 with fail
  generalize w.alloc (.cells #[.int .u64 0, .bool false, .string ⟨#[]⟩] 102) = w0 at *
  go_wp2_with fail
  refine (value_any p2 w0 hp2l).mono ?_
  rintro e w1 ⟨rfl, rfl⟩
  rw [hnp]
  clear hp2l hx2 hnp
  by_cases hn1 : 497 < n
  · have hd : decide ((497 : Int) < (n : Int)) = true := by simp; omega
    have HV := Lib.hid (takeV_none (HNone.out hn1))
    go_wp2_with (first | (refine wpList_store_box rfl 102 (.tmp 2) (.tmp 26) rfl w.heap.size [.int .u64 0, .bool false, .string ⟨#[]⟩] rfl rfl B0.out rfl info_rsheet (sh_one _ _ _) ?_; intro W hb hk) | fail)
    have KF : Kp (fun _ => False) w W := K0.out.trans_new hk (fun b e => .inl (by omega))
    rw [HV.out]
    refine bodyPost_ret (v := .tuple #[sv 0 false ⟨#[]⟩, .int .i64 3]) ?_ rfl ⟨rfl, KF⟩
    exact results_two rtake_results _ _ w.heap.size 102 _ (0, 0) _ rfl hb Tryz.underlying102 rfl info_rsheet

  · have hd : decide ((497 : Int) < (n : Int)) = false := by simp; omega
    by_cases hk12 : k = 1 ∨ k = 2
    · obtain ⟨kb, hkb⟩ : ∃ kb, decide (k = 2) = kb := ⟨_, rfl⟩
      have hb2 : (((k : Nat) : Int) == 2) = kb := by
        rw [← hkb, Bool.eq_iff_iff]; simp; omega
      have hg1 : (((k : Nat) : Int) != 1) = kb := by
        rw [← hkb, Bool.eq_iff_iff]; simp; omega
      have hg2 : (((k : Nat) : Int) != 2) = !kb := by
        rw [← hkb]; rcases hk12 with rfl | rfl <;> rfl
      have HKB := Lib.hid hkb
      clear hkb hk12
      cases kb
      · simp only [Bool.not_false] at hg2
        go_upto_region 6 with fail
        obtain ⟨m, hme⟩ : ∃ m : Nat, m = 11 + n := ⟨_, rfl⟩
        rw [← hme] at hxt
        have hm : IntKind.i64.wrap ((11 : Int) + n) = (m : Int) := by rw [IntWalk.i64_in _ (by omega)]; omega
        have hm1 : m ≤ 512 := by omega
        have hm2 : 11 ≤ m := by omega
        have hm3 : ((m : Int)) ≤ 512 := by omega
        have hm4 : (11 : Int) ≤ m := by omega
        clear hme
        have R1 := Lib.hid (B0.out.drew)
        have K1 := Lib.hid (K0.out.drew)
        clear hg1 hg2
        refine wp_region_held_drew (S := fun _ => True) (by kernel_rfl) (trivial) (fun hHeld => ?_)
        refine tk 0 (h := ?_)
        refine tk 1 (h := ?_)
        refine tk 3 (h := ?_)
        refine tk 4 (h := ?_)
        refine tk 5 (h := ?_)
        refine tk 6 (h := ?_)
        refine tk 7 (h := ?_)
        refine tk 8 (h := ?_)
        refine tk 9 (h := ?_)
        refine wpAnyH_ready (rs := [2, 11]) (by kernel_rfl) (by simp) ?_
        refine rdc 2 (h := fun K hK => ?_) (hs := rdc 11 (h := fun K hK => ?_) (hs := AllReadyH.nil))
        · go_simp
          refine (value_any p8 w0.drew HP8.out).mono ?_
          rintro e w3 ⟨rfl, rfl⟩
          rw [HQ.out]
          go_wp2_with fail
          refine hK.out _ _ (trivial) (fun hHeld2 => ?_)
          clear hK K
          try simp only [Act.put, List.setIfInBounds_toArray, List.set_cons_zero, List.set_cons_succ]
          refine tk 10 (h := ?_)
          refine rd 11 (h := fun K hK => ?_)
          go_simp
          have B2 := Lib.hid (show Box (w0.alloc (.cells #[.int .u64 0, .bool false, .string ⟨#[]⟩] 102)).drew (w.heap.size + 1) 102 #[.int .u64 0, .bool false, .string ⟨#[]⟩] by rw [← hz]; exact Box.new w0 102 #[.int .u64 0, .bool false, .string ⟨#[]⟩])
          have R2 := Lib.hid (show Box (w0.alloc (.cells #[.int .u64 0, .bool false, .string ⟨#[]⟩] 102)).drew w.heap.size 102 #[.int .u64 0, .bool false, .string ⟨#[]⟩] from B0.out.alloc _)
          have K2 := Lib.hid (show Kp (fun _ => False) w (w0.alloc (.cells #[.int .u64 0, .bool false, .string ⟨#[]⟩] 102)).drew from (K0.out.alloc _).drew)
          generalize (w0.alloc (.cells #[.int .u64 0, .bool false, .string ⟨#[]⟩] 102)).drew = w4 at *
          refine hK.out _ _ (trivial) (fun hHeld3 => ?_)
          clear hK K
          try simp only [Act.put, List.setIfInBounds_toArray, List.set_cons_zero, List.set_cons_succ]
          refine rd 12 (h := fun K hK => ?_)
          rw [if_pos (by rfl)]
          refine wp_store_box 102 (.tmp 5) (.tmp 37) rfl (w.heap.size + 1) [.int .u64 q, .bool false, .string ⟨tx.toArray⟩] rfl rfl B2.out rfl info_rsheet (sh_one _ _ _) ?_
          intro w5 hb5 hk5
          have B5 := Lib.hid hb5
          have R5 := Lib.hid (R2.out.kp hk5 (fun e => by omega))
          have K5 := Lib.hid (K2.out.trans_new hk5 (fun b e => .inl (by omega)))
          clear hb5 hk5
          refine hK.out _ _ (trivial) (fun hHeld1 => ?_)
          clear hK K
          try simp only [Act.put]
          refine wpAnyH_done (by kernel_rfl) ?_ _
          go_wp2_with (first | (refine wpList_load_mid rfl 102 (.tmp 5) rfl (w.heap.size + 1) 0 rfl [.int .u64 q, .bool false, .string ⟨tx.toArray⟩] _ (Box.range' (L := [.int .u64 q, .bool false, .string ⟨tx.toArray⟩]) B5.out) Tryz.underlying102 rfl info_rsheet ?_) | fail)
          refine (rput_any q false tx w5 hq64 (by rw [HTL.out (by omega)]; omega)).mono ?_
          rintro e w6 ⟨rfl, hk⟩
          have B6 := Lib.hid (B5.out.kp hk (fun e => e))
          have R6 := Lib.hid (R5.out.kp hk (fun e => e))
          have K6 := Lib.hid (K5.out.trans hk)
          clear hk
          have hcmp : ((⟨(secL q false tx).toArray⟩ : ByteArray).toList == s.toList) = decide (secL q false tx = l) := by
            rw [← HS.out, str_eq, Bool.eq_iff_iff]; simp
          obtain ⟨y, hy⟩ : ∃ y : ByteArray, ⟨(secL q false tx).toArray⟩ = y := ⟨_, rfl⟩
          rw [hy] at hcmp ⊢
          have HY := Lib.hid hy
          clear hy
          by_cases heq : secL q false tx = l
          · rw [decide_eq_true heq] at hcmp
            have HV := Lib.hid (takeV_some (l := l) (s := ⟨q, false, tx⟩) (by unfold takeS; rw [HTQ.out, HKL.out, HKB.out, HTX.out, HN.out, if_pos ⟨HL.out, by omega, heq⟩]))
            clear heq
            go_wp2_with (first | (refine wpList_load_mid rfl 102 (.tmp 5) rfl (w.heap.size + 1) 0 rfl [.int .u64 q, .bool false, .string ⟨tx.toArray⟩] _ (Box.range' (L := [.int .u64 q, .bool false, .string ⟨tx.toArray⟩]) B6.out) Tryz.underlying102 rfl info_rsheet ?_) | (refine wpList_store_box rfl 102 (.tmp 2) (.tmp 43) rfl w.heap.size [.int .u64 q, .bool false, .string ⟨tx.toArray⟩] rfl rfl R6.out rfl info_rsheet (sh_one _ _ _) ?_; intro W hb hk) | fail)
            have KF : Kp (fun _ => False) w W := K6.out.trans_new hk (fun b e => .inl (by omega))
            rw [HV.out]
            refine bodyPost_ret (v := .tuple #[sv q false ⟨tx.toArray⟩, .int .i64 0]) ?_ rfl ⟨rfl, KF⟩
            exact results_two rtake_results _ _ w.heap.size 102 _ (0, 0) _ rfl hb Tryz.underlying102 rfl info_rsheet
          · rw [decide_eq_false heq] at hcmp
            have HV := Lib.hid (takeV_none (l := l) (by unfold takeS; rw [HTQ.out, HKL.out, HKB.out, HTX.out, HN.out, if_neg (fun h => heq h.2.2)]))
            clear heq
            go_wp2_with (first | (refine wpList_store_box rfl 102 (.tmp 2) (.tmp 42) rfl w.heap.size [.int .u64 0, .bool false, .string ⟨#[]⟩] rfl rfl R6.out rfl info_rsheet (sh_one _ _ _) ?_; intro W hb hk) | fail)
            have KF : Kp (fun _ => False) w W := K6.out.trans_new hk (fun b e => .inl (by omega))
            rw [HV.out]
            refine bodyPost_ret (v := .tuple #[sv 0 false ⟨#[]⟩, .int .i64 3]) ?_ rfl ⟨rfl, KF⟩
            exact results_two rtake_results _ _ w.heap.size 102 _ (0, 0) _ rfl hb Tryz.underlying102 rfl info_rsheet
          
        · go_simp
          have B2 := Lib.hid (show Box (w0.alloc (.cells #[.int .u64 0, .bool false, .string ⟨#[]⟩] 102)).drew (w.heap.size + 1) 102 #[.int .u64 0, .bool false, .string ⟨#[]⟩] by rw [← hz]; exact Box.new w0 102 #[.int .u64 0, .bool false, .string ⟨#[]⟩])
          have R2 := Lib.hid (show Box (w0.alloc (.cells #[.int .u64 0, .bool false, .string ⟨#[]⟩] 102)).drew w.heap.size 102 #[.int .u64 0, .bool false, .string ⟨#[]⟩] from B0.out.alloc _)
          have K2 := Lib.hid (show Kp (fun _ => False) w (w0.alloc (.cells #[.int .u64 0, .bool false, .string ⟨#[]⟩] 102)).drew from (K0.out.alloc _).drew)
          generalize (w0.alloc (.cells #[.int .u64 0, .bool false, .string ⟨#[]⟩] 102)).drew = w4 at *
          refine hK.out _ _ (trivial) (fun hHeld4 => ?_)
          clear hK K
          try simp only [Act.put, List.setIfInBounds_toArray, List.set_cons_zero, List.set_cons_succ]
          refine rd 2 (h := fun K hK => ?_)
          go_simp
          refine (value_any p8 w4 HP8.out).mono ?_
          rintro e w3 ⟨rfl, rfl⟩
          rw [HQ.out]
          go_wp2_with fail
          refine hK.out _ _ (trivial) (fun hHeld5 => ?_)
          clear hK K
          try simp only [Act.put, List.setIfInBounds_toArray, List.set_cons_zero, List.set_cons_succ]
          refine tk 10 (h := ?_)
          refine rd 12 (h := fun K hK => ?_)
          rw [if_pos (by rfl)]
          refine wp_store_box 102 (.tmp 5) (.tmp 37) rfl (w.heap.size + 1) [.int .u64 q, .bool false, .string ⟨tx.toArray⟩] rfl rfl B2.out rfl info_rsheet (sh_one _ _ _) ?_
          intro w5 hb5 hk5
          have B5 := Lib.hid hb5
          have R5 := Lib.hid (R2.out.kp hk5 (fun e => by omega))
          have K5 := Lib.hid (K2.out.trans_new hk5 (fun b e => .inl (by omega)))
          clear hb5 hk5
          refine hK.out _ _ (trivial) (fun hHeld1 => ?_)
          clear hK K
          try simp only [Act.put]
          refine wpAnyH_done (by kernel_rfl) ?_ _
          go_wp2_with (first | (refine wpList_load_mid rfl 102 (.tmp 5) rfl (w.heap.size + 1) 0 rfl [.int .u64 q, .bool false, .string ⟨tx.toArray⟩] _ (Box.range' (L := [.int .u64 q, .bool false, .string ⟨tx.toArray⟩]) B5.out) Tryz.underlying102 rfl info_rsheet ?_) | fail)
          refine (rput_any q false tx w5 hq64 (by rw [HTL.out (by omega)]; omega)).mono ?_
          rintro e w6 ⟨rfl, hk⟩
          have B6 := Lib.hid (B5.out.kp hk (fun e => e))
          have R6 := Lib.hid (R5.out.kp hk (fun e => e))
          have K6 := Lib.hid (K5.out.trans hk)
          clear hk
          have hcmp : ((⟨(secL q false tx).toArray⟩ : ByteArray).toList == s.toList) = decide (secL q false tx = l) := by
            rw [← HS.out, str_eq, Bool.eq_iff_iff]; simp
          obtain ⟨y, hy⟩ : ∃ y : ByteArray, ⟨(secL q false tx).toArray⟩ = y := ⟨_, rfl⟩
          rw [hy] at hcmp ⊢
          have HY := Lib.hid hy
          clear hy
          by_cases heq : secL q false tx = l
          · rw [decide_eq_true heq] at hcmp
            have HV := Lib.hid (takeV_some (l := l) (s := ⟨q, false, tx⟩) (by unfold takeS; rw [HTQ.out, HKL.out, HKB.out, HTX.out, HN.out, if_pos ⟨HL.out, by omega, heq⟩]))
            clear heq
            go_wp2_with (first | (refine wpList_load_mid rfl 102 (.tmp 5) rfl (w.heap.size + 1) 0 rfl [.int .u64 q, .bool false, .string ⟨tx.toArray⟩] _ (Box.range' (L := [.int .u64 q, .bool false, .string ⟨tx.toArray⟩]) B6.out) Tryz.underlying102 rfl info_rsheet ?_) | (refine wpList_store_box rfl 102 (.tmp 2) (.tmp 43) rfl w.heap.size [.int .u64 q, .bool false, .string ⟨tx.toArray⟩] rfl rfl R6.out rfl info_rsheet (sh_one _ _ _) ?_; intro W hb hk) | fail)
            have KF : Kp (fun _ => False) w W := K6.out.trans_new hk (fun b e => .inl (by omega))
            rw [HV.out]
            refine bodyPost_ret (v := .tuple #[sv q false ⟨tx.toArray⟩, .int .i64 0]) ?_ rfl ⟨rfl, KF⟩
            exact results_two rtake_results _ _ w.heap.size 102 _ (0, 0) _ rfl hb Tryz.underlying102 rfl info_rsheet
          · rw [decide_eq_false heq] at hcmp
            have HV := Lib.hid (takeV_none (l := l) (by unfold takeS; rw [HTQ.out, HKL.out, HKB.out, HTX.out, HN.out, if_neg (fun h => heq h.2.2)]))
            clear heq
            go_wp2_with (first | (refine wpList_store_box rfl 102 (.tmp 2) (.tmp 42) rfl w.heap.size [.int .u64 0, .bool false, .string ⟨#[]⟩] rfl rfl R6.out rfl info_rsheet (sh_one _ _ _) ?_; intro W hb hk) | fail)
            have KF : Kp (fun _ => False) w W := K6.out.trans_new hk (fun b e => .inl (by omega))
            rw [HV.out]
            refine bodyPost_ret (v := .tuple #[sv 0 false ⟨#[]⟩, .int .i64 3]) ?_ rfl ⟨rfl, KF⟩
            exact results_two rtake_results _ _ w.heap.size 102 _ (0, 0) _ rfl hb Tryz.underlying102 rfl info_rsheet
          
      · simp only [Bool.not_true] at hg2
        go_upto_region 6 with fail
        obtain ⟨m, hme⟩ : ∃ m : Nat, m = 11 + n := ⟨_, rfl⟩
        rw [← hme] at hxt
        have hm : IntKind.i64.wrap ((11 : Int) + n) = (m : Int) := by rw [IntWalk.i64_in _ (by omega)]; omega
        have hm1 : m ≤ 512 := by omega
        have hm2 : 11 ≤ m := by omega
        have hm3 : ((m : Int)) ≤ 512 := by omega
        have hm4 : (11 : Int) ≤ m := by omega
        clear hme
        have R1 := Lib.hid (B0.out.drew)
        have K1 := Lib.hid (K0.out.drew)
        clear hg1 hg2
        refine wp_region_held_drew (S := fun _ => True) (by kernel_rfl) (trivial) (fun hHeld => ?_)
        refine tk 0 (h := ?_)
        refine tk 1 (h := ?_)
        refine tk 3 (h := ?_)
        refine tk 4 (h := ?_)
        refine tk 5 (h := ?_)
        refine tk 6 (h := ?_)
        refine tk 7 (h := ?_)
        refine tk 8 (h := ?_)
        refine tk 9 (h := ?_)
        refine wpAnyH_ready (rs := [2, 11]) (by kernel_rfl) (by simp) ?_
        refine rdc 2 (h := fun K hK => ?_) (hs := rdc 11 (h := fun K hK => ?_) (hs := AllReadyH.nil))
        · go_simp
          refine (value_any p8 w0.drew HP8.out).mono ?_
          rintro e w3 ⟨rfl, rfl⟩
          rw [HQ.out]
          go_wp2_with fail
          refine hK.out _ _ (trivial) (fun hHeld7 => ?_)
          clear hK K
          try simp only [Act.put, List.setIfInBounds_toArray, List.set_cons_zero, List.set_cons_succ]
          refine tk 10 (h := ?_)
          refine rd 11 (h := fun K hK => ?_)
          go_simp
          have B2 := Lib.hid (show Box (w0.alloc (.cells #[.int .u64 0, .bool false, .string ⟨#[]⟩] 102)).drew (w.heap.size + 1) 102 #[.int .u64 0, .bool false, .string ⟨#[]⟩] by rw [← hz]; exact Box.new w0 102 #[.int .u64 0, .bool false, .string ⟨#[]⟩])
          have R2 := Lib.hid (show Box (w0.alloc (.cells #[.int .u64 0, .bool false, .string ⟨#[]⟩] 102)).drew w.heap.size 102 #[.int .u64 0, .bool false, .string ⟨#[]⟩] from B0.out.alloc _)
          have K2 := Lib.hid (show Kp (fun _ => False) w (w0.alloc (.cells #[.int .u64 0, .bool false, .string ⟨#[]⟩] 102)).drew from (K0.out.alloc _).drew)
          generalize (w0.alloc (.cells #[.int .u64 0, .bool false, .string ⟨#[]⟩] 102)).drew = w4 at *
          refine hK.out _ _ (trivial) (fun hHeld8 => ?_)
          clear hK K
          try simp only [Act.put, List.setIfInBounds_toArray, List.set_cons_zero, List.set_cons_succ]
          refine rd 12 (h := fun K hK => ?_)
          rw [if_pos (by rfl)]
          refine wp_store_box 102 (.tmp 5) (.tmp 37) rfl (w.heap.size + 1) [.int .u64 q, .bool true, .string ⟨tx.toArray⟩] rfl rfl B2.out rfl info_rsheet (sh_one _ _ _) ?_
          intro w5 hb5 hk5
          have B5 := Lib.hid hb5
          have R5 := Lib.hid (R2.out.kp hk5 (fun e => by omega))
          have K5 := Lib.hid (K2.out.trans_new hk5 (fun b e => .inl (by omega)))
          clear hb5 hk5
          refine hK.out _ _ (trivial) (fun hHeld6 => ?_)
          clear hK K
          try simp only [Act.put]
          refine wpAnyH_done (by kernel_rfl) ?_ _
          go_wp2_with (first | (refine wpList_load_mid rfl 102 (.tmp 5) rfl (w.heap.size + 1) 0 rfl [.int .u64 q, .bool true, .string ⟨tx.toArray⟩] _ (Box.range' (L := [.int .u64 q, .bool true, .string ⟨tx.toArray⟩]) B5.out) Tryz.underlying102 rfl info_rsheet ?_) | fail)
          refine (rput_any q true tx w5 hq64 (by rw [HTL.out (by omega)]; omega)).mono ?_
          rintro e w6 ⟨rfl, hk⟩
          have B6 := Lib.hid (B5.out.kp hk (fun e => e))
          have R6 := Lib.hid (R5.out.kp hk (fun e => e))
          have K6 := Lib.hid (K5.out.trans hk)
          clear hk
          have hcmp : ((⟨(secL q true tx).toArray⟩ : ByteArray).toList == s.toList) = decide (secL q true tx = l) := by
            rw [← HS.out, str_eq, Bool.eq_iff_iff]; simp
          obtain ⟨y, hy⟩ : ∃ y : ByteArray, ⟨(secL q true tx).toArray⟩ = y := ⟨_, rfl⟩
          rw [hy] at hcmp ⊢
          have HY := Lib.hid hy
          clear hy
          by_cases heq : secL q true tx = l
          · rw [decide_eq_true heq] at hcmp
            have HV := Lib.hid (takeV_some (l := l) (s := ⟨q, true, tx⟩) (by unfold takeS; rw [HTQ.out, HKL.out, HKB.out, HTX.out, HN.out, if_pos ⟨HL.out, by omega, heq⟩]))
            clear heq
            go_wp2_with (first | (refine wpList_load_mid rfl 102 (.tmp 5) rfl (w.heap.size + 1) 0 rfl [.int .u64 q, .bool true, .string ⟨tx.toArray⟩] _ (Box.range' (L := [.int .u64 q, .bool true, .string ⟨tx.toArray⟩]) B6.out) Tryz.underlying102 rfl info_rsheet ?_) | (refine wpList_store_box rfl 102 (.tmp 2) (.tmp 43) rfl w.heap.size [.int .u64 q, .bool true, .string ⟨tx.toArray⟩] rfl rfl R6.out rfl info_rsheet (sh_one _ _ _) ?_; intro W hb hk) | fail)
            have KF : Kp (fun _ => False) w W := K6.out.trans_new hk (fun b e => .inl (by omega))
            rw [HV.out]
            refine bodyPost_ret (v := .tuple #[sv q true ⟨tx.toArray⟩, .int .i64 0]) ?_ rfl ⟨rfl, KF⟩
            exact results_two rtake_results _ _ w.heap.size 102 _ (0, 0) _ rfl hb Tryz.underlying102 rfl info_rsheet
          · rw [decide_eq_false heq] at hcmp
            have HV := Lib.hid (takeV_none (l := l) (by unfold takeS; rw [HTQ.out, HKL.out, HKB.out, HTX.out, HN.out, if_neg (fun h => heq h.2.2)]))
            clear heq
            go_wp2_with (first | (refine wpList_store_box rfl 102 (.tmp 2) (.tmp 42) rfl w.heap.size [.int .u64 0, .bool false, .string ⟨#[]⟩] rfl rfl R6.out rfl info_rsheet (sh_one _ _ _) ?_; intro W hb hk) | fail)
            have KF : Kp (fun _ => False) w W := K6.out.trans_new hk (fun b e => .inl (by omega))
            rw [HV.out]
            refine bodyPost_ret (v := .tuple #[sv 0 false ⟨#[]⟩, .int .i64 3]) ?_ rfl ⟨rfl, KF⟩
            exact results_two rtake_results _ _ w.heap.size 102 _ (0, 0) _ rfl hb Tryz.underlying102 rfl info_rsheet
          
        · go_simp
          have B2 := Lib.hid (show Box (w0.alloc (.cells #[.int .u64 0, .bool false, .string ⟨#[]⟩] 102)).drew (w.heap.size + 1) 102 #[.int .u64 0, .bool false, .string ⟨#[]⟩] by rw [← hz]; exact Box.new w0 102 #[.int .u64 0, .bool false, .string ⟨#[]⟩])
          have R2 := Lib.hid (show Box (w0.alloc (.cells #[.int .u64 0, .bool false, .string ⟨#[]⟩] 102)).drew w.heap.size 102 #[.int .u64 0, .bool false, .string ⟨#[]⟩] from B0.out.alloc _)
          have K2 := Lib.hid (show Kp (fun _ => False) w (w0.alloc (.cells #[.int .u64 0, .bool false, .string ⟨#[]⟩] 102)).drew from (K0.out.alloc _).drew)
          generalize (w0.alloc (.cells #[.int .u64 0, .bool false, .string ⟨#[]⟩] 102)).drew = w4 at *
          refine hK.out _ _ (trivial) (fun hHeld9 => ?_)
          clear hK K
          try simp only [Act.put, List.setIfInBounds_toArray, List.set_cons_zero, List.set_cons_succ]
          refine rd 2 (h := fun K hK => ?_)
          go_simp
          refine (value_any p8 w4 HP8.out).mono ?_
          rintro e w3 ⟨rfl, rfl⟩
          rw [HQ.out]
          go_wp2_with fail
          refine hK.out _ _ (trivial) (fun hHeld10 => ?_)
          clear hK K
          try simp only [Act.put, List.setIfInBounds_toArray, List.set_cons_zero, List.set_cons_succ]
          refine tk 10 (h := ?_)
          refine rd 12 (h := fun K hK => ?_)
          rw [if_pos (by rfl)]
          refine wp_store_box 102 (.tmp 5) (.tmp 37) rfl (w.heap.size + 1) [.int .u64 q, .bool true, .string ⟨tx.toArray⟩] rfl rfl B2.out rfl info_rsheet (sh_one _ _ _) ?_
          intro w5 hb5 hk5
          have B5 := Lib.hid hb5
          have R5 := Lib.hid (R2.out.kp hk5 (fun e => by omega))
          have K5 := Lib.hid (K2.out.trans_new hk5 (fun b e => .inl (by omega)))
          clear hb5 hk5
          refine hK.out _ _ (trivial) (fun hHeld6 => ?_)
          clear hK K
          try simp only [Act.put]
          refine wpAnyH_done (by kernel_rfl) ?_ _
          go_wp2_with (first | (refine wpList_load_mid rfl 102 (.tmp 5) rfl (w.heap.size + 1) 0 rfl [.int .u64 q, .bool true, .string ⟨tx.toArray⟩] _ (Box.range' (L := [.int .u64 q, .bool true, .string ⟨tx.toArray⟩]) B5.out) Tryz.underlying102 rfl info_rsheet ?_) | fail)
          refine (rput_any q true tx w5 hq64 (by rw [HTL.out (by omega)]; omega)).mono ?_
          rintro e w6 ⟨rfl, hk⟩
          have B6 := Lib.hid (B5.out.kp hk (fun e => e))
          have R6 := Lib.hid (R5.out.kp hk (fun e => e))
          have K6 := Lib.hid (K5.out.trans hk)
          clear hk
          have hcmp : ((⟨(secL q true tx).toArray⟩ : ByteArray).toList == s.toList) = decide (secL q true tx = l) := by
            rw [← HS.out, str_eq, Bool.eq_iff_iff]; simp
          obtain ⟨y, hy⟩ : ∃ y : ByteArray, ⟨(secL q true tx).toArray⟩ = y := ⟨_, rfl⟩
          rw [hy] at hcmp ⊢
          have HY := Lib.hid hy
          clear hy
          by_cases heq : secL q true tx = l
          · rw [decide_eq_true heq] at hcmp
            have HV := Lib.hid (takeV_some (l := l) (s := ⟨q, true, tx⟩) (by unfold takeS; rw [HTQ.out, HKL.out, HKB.out, HTX.out, HN.out, if_pos ⟨HL.out, by omega, heq⟩]))
            clear heq
            go_wp2_with (first | (refine wpList_load_mid rfl 102 (.tmp 5) rfl (w.heap.size + 1) 0 rfl [.int .u64 q, .bool true, .string ⟨tx.toArray⟩] _ (Box.range' (L := [.int .u64 q, .bool true, .string ⟨tx.toArray⟩]) B6.out) Tryz.underlying102 rfl info_rsheet ?_) | (refine wpList_store_box rfl 102 (.tmp 2) (.tmp 43) rfl w.heap.size [.int .u64 q, .bool true, .string ⟨tx.toArray⟩] rfl rfl R6.out rfl info_rsheet (sh_one _ _ _) ?_; intro W hb hk) | fail)
            have KF : Kp (fun _ => False) w W := K6.out.trans_new hk (fun b e => .inl (by omega))
            rw [HV.out]
            refine bodyPost_ret (v := .tuple #[sv q true ⟨tx.toArray⟩, .int .i64 0]) ?_ rfl ⟨rfl, KF⟩
            exact results_two rtake_results _ _ w.heap.size 102 _ (0, 0) _ rfl hb Tryz.underlying102 rfl info_rsheet
          · rw [decide_eq_false heq] at hcmp
            have HV := Lib.hid (takeV_none (l := l) (by unfold takeS; rw [HTQ.out, HKL.out, HKB.out, HTX.out, HN.out, if_neg (fun h => heq h.2.2)]))
            clear heq
            go_wp2_with (first | (refine wpList_store_box rfl 102 (.tmp 2) (.tmp 42) rfl w.heap.size [.int .u64 0, .bool false, .string ⟨#[]⟩] rfl rfl R6.out rfl info_rsheet (sh_one _ _ _) ?_; intro W hb hk) | fail)
            have KF : Kp (fun _ => False) w W := K6.out.trans_new hk (fun b e => .inl (by omega))
            rw [HV.out]
            refine bodyPost_ret (v := .tuple #[sv 0 false ⟨#[]⟩, .int .i64 3]) ?_ rfl ⟨rfl, KF⟩
            exact results_two rtake_results _ _ w.heap.size 102 _ (0, 0) _ rfl hb Tryz.underlying102 rfl info_rsheet
          
    · have hg1 : (((k : Nat) : Int) != 1) = true := by simp; omega
      have hg2 : (((k : Nat) : Int) != 2) = true := by simp; omega
      have HV := Lib.hid (takeV_none (HKind.out (fun e => hk12 (.inl e)) (fun e => hk12 (.inr e))))
      clear hk12
      go_wp2_with (first | (refine wpList_store_box rfl 102 (.tmp 2) (.tmp 26) rfl w.heap.size [.int .u64 0, .bool false, .string ⟨#[]⟩] rfl rfl B0.out rfl info_rsheet (sh_one _ _ _) ?_; intro W hb hk) | fail)
      have KF : Kp (fun _ => False) w W := K0.out.trans_new hk (fun b e => .inl (by omega))
      rw [HV.out]
      refine bodyPost_ret (v := .tuple #[sv 0 false ⟨#[]⟩, .int .i64 3]) ?_ rfl ⟨rfl, KF⟩
      exact results_two rtake_results _ _ w.heap.size 102 _ (0, 0) _ rfl hb Tryz.underlying102 rfl info_rsheet


theorem rtake_any (l : List UInt8) (w : World) :
    Calls Tryz.prog 111 #[.string ⟨l.toArray⟩] w fun e w' => e = .returned (takeV l) ∧ Kp (fun _ => False) w w' := by
  by_cases hl : l.length = 512
  · exact rtake_whole l w hl
  · rw [takeV_none (by unfold takeS; rw [if_neg (fun h => hl h.1)])]
    exact rtake_odd ⟨l.toArray⟩ w (by show l.toArray.size ≠ 512; simpa using hl)
end Go.Proofs.YtfcljcikajaedaaGreatDoor

/- The document's own head of bytes. No condition. -/
namespace Go.Proofs.YtfcljcikajaedaaGreatDoor
open Go.RowKit

theorem info_rhead : (Tryz.prog.info? 40).map (·.size) = some 4 := by kernel_rfl
theorem hrtake_results : Tryz.f84.results = #[.cell 2 40, .tmp 3] := rfl
theorem hd_one (a b c : Int) (s : ByteArray) : ∀ v ∈ ([.int .u64 a, .int .u64 b, .int .i64 c, .string s] : List Value), v.oneCell' = true := fun v hv => by
  simp only [List.mem_cons, List.not_mem_nil, or_false] at hv
  rcases hv with rfl | rfl | rfl | rfl <;> rfl
theorem rheadS_odd {l : List UInt8} (h : ¬ (l.length = 512 ∧ kk l ≤ 64)) : rheadS l = none := by
  unfold rheadS
  rw [if_neg (fun e => h ⟨e.1, e.2.1⟩)]
set_option maxRecDepth 100000 in
set_option maxHeartbeats 1000000 in
theorem hrtake_odd (l : List UInt8) (w : World) (hn : l.length ≠ 512) :
    Calls Tryz.prog 84 #[.string ⟨l.toArray⟩] w fun e w' => ∃ h, e = .returned (.tuple #[.agg (hcsR h), .bool (rheadS l).isSome]) ∧ (∀ x, rheadS l = some x → h = x) ∧ Kp (fun _ => False) w w' := by
  rw [rheadS_odd (fun h => hn h.1)]
  obtain ⟨s, hs⟩ : ∃ s : ByteArray, ⟨l.toArray⟩ = s := ⟨_, rfl⟩
  have hsz : s.size = l.length := by rw [← hs]; show l.toArray.size = _; simp
  have hnn : ((s.size : Int) != 512) = true := by simp; omega
  rw [hs]
  clear hs hsz hn
  have B0 := Lib.hid (Box.new w 40 #[.int .u64 0, .int .u64 0, .int .i64 0, .string ⟨#[]⟩])
  have K0 := Lib.hid ((Kp.refl (fun _ => False) w).alloc (.cells #[.int .u64 0, .int .u64 0, .int .i64 0, .string ⟨#[]⟩] 40))
  have hz : (w.alloc (.cells #[.int .u64 0, .int .u64 0, .int .i64 0, .string ⟨#[]⟩] 40)).heap.size = w.heap.size + 1 := by simp
  go_enter Tryz.func84, Tryz.ntmps84
  go_upto_region 1 with fail
  generalize w.alloc (.cells #[.int .u64 0, .int .u64 0, .int .i64 0, .string ⟨#[]⟩] 40) = w0 at *
  go_wp2_with (first | (refine wpList_store_box rfl 40 (.tmp 2) (.tmp 13) rfl w.heap.size [.int .u64 0, .int .u64 0, .int .i64 0, .string ⟨#[]⟩] rfl rfl B0.out rfl info_rhead (hd_one _ _ _ _) ?_; intro W hb hk) | fail)
  have KF : Kp (fun _ => False) w W := K0.out.trans_new hk (fun b e => .inl (by omega))
  refine bodyPost_ret (v := .tuple #[.agg (hcsR ⟨0, 0, 0, []⟩), .bool false]) ?_ rfl ⟨⟨0, 0, 0, []⟩, ?_, fun h hh => ?_, KF⟩
  · exact results_two hrtake_results _ _ w.heap.size 40 _ (0, 0) _ rfl hb Tryz.underlying40 rfl info_rhead
  · rfl
  · cases hh

set_option maxRecDepth 100000 in
set_option maxHeartbeats 4000000 in
theorem hrtake_whole (l : List UInt8) (w : World) (hl : l.length = 512) :
    Calls Tryz.prog 84 #[.string ⟨l.toArray⟩] w fun e w' => ∃ h, e = .returned (.tuple #[.agg (hcsR h), .bool (rheadS l).isSome]) ∧ (∀ x, rheadS l = some x → h = x) ∧ Kp (fun _ => False) w w' := by
  obtain ⟨s, hs⟩ : ∃ s : ByteArray, ⟨l.toArray⟩ = s := ⟨_, rfl⟩
  have hsz : s.size = 512 := by rw [← hs]; show l.toArray.size = 512; simpa using hl
  obtain ⟨p8, hp8⟩ : ∃ p, l.take 8 = p := ⟨_, rfl⟩
  obtain ⟨p16, hp16⟩ : ∃ p, (l.drop 8).take 8 = p := ⟨_, rfl⟩
  obtain ⟨p2, hp2⟩ : ∃ p, (l.drop 16).take 2 = p := ⟨_, rfl⟩
  have hx8 : s.extract 0 8 = ⟨p8.toArray⟩ := by rw [← hs, ext_mid, ← hp8]; rfl
  have hx16 : s.extract 8 16 = ⟨p16.toArray⟩ := by rw [← hs, ext_mid, ← hp16]
  have hx2 : s.extract 16 18 = ⟨p2.toArray⟩ := by rw [← hs, ext_mid, ← hp2]
  obtain ⟨k, hk⟩ : ∃ k, kk l = k := ⟨_, rfl⟩
  have hk8 : (l[18]'(by omega)).toNat = k := by
    rw [← hk, kk, List.getD_eq_getElem?_getD, List.getElem?_eq_getElem (by omega)]
    rfl
  have hidx : ∀ w : World, (Instr.index 9 (.string s) (.int .i64 18)).run Tryz.prog w = .ok (.int .u8 (k : Int)) w := by
    intro w
    rw [run_index_string (h := Tryz.underlying9)]
    have h8 : (0 : Int) ≤ 18 ∧ (18 : Int) < s.size := ⟨by decide, by rw [hsz]; decide⟩
    rw [dif_pos h8]
    have e : s[Int.toNat 18]'(by rw [hsz]; decide) = l[18]'(by omega) := by subst hs; rfl
    rw [← hk8, ← e]
  have hk256 : k < 256 := by rw [← hk8]; exact UInt8.toNat_lt _
  by_cases h64 : 64 < k
  · rw [rheadS_odd (fun h => by have := h.2; omega)]
    have hd : decide ((64 : Int) < (k : Int)) = true := by simp; omega
    rw [hs]
    clear hs hx8 hx16 hx2 hp8 hp16 hp2 hk hk8 hl
    have B0 := Lib.hid (Box.new w 40 #[.int .u64 0, .int .u64 0, .int .i64 0, .string ⟨#[]⟩])
    have K0 := Lib.hid ((Kp.refl (fun _ => False) w).alloc (.cells #[.int .u64 0, .int .u64 0, .int .i64 0, .string ⟨#[]⟩] 40))
    have hz : (w.alloc (.cells #[.int .u64 0, .int .u64 0, .int .i64 0, .string ⟨#[]⟩] 40)).heap.size = w.heap.size + 1 := by simp
    go_enter Tryz.func84, Tryz.ntmps84
    go_upto_region 1 with fail
    generalize w.alloc (.cells #[.int .u64 0, .int .u64 0, .int .i64 0, .string ⟨#[]⟩] 40) = w0 at *
    go_wp2_with (first | (refine wpList_store_box rfl 40 (.tmp 2) (.tmp 13) rfl w.heap.size [.int .u64 0, .int .u64 0, .int .i64 0, .string ⟨#[]⟩] rfl rfl B0.out rfl info_rhead (hd_one _ _ _ _) ?_; intro W hb hk) | fail)
    have KF : Kp (fun _ => False) w W := K0.out.trans_new hk (fun b e => .inl (by omega))
    refine bodyPost_ret (v := .tuple #[.agg (hcsR ⟨0, 0, 0, []⟩), .bool false]) ?_ rfl ⟨⟨0, 0, 0, []⟩, ?_, fun h hh => ?_, KF⟩
    · exact results_two hrtake_results _ _ w.heap.size 40 _ (0, 0) _ rfl hb Tryz.underlying40 rfl info_rhead
    · rfl
    · cases hh
  · have hd : decide ((64 : Int) < (k : Int)) = false := by simp; omega
    obtain ⟨g0, hg0⟩ : ∃ q, numN p8 = q := ⟨_, rfl⟩
    obtain ⟨f0, hf0⟩ : ∃ q, numN p16 = q := ⟨_, rfl⟩
    obtain ⟨n0, hn0⟩ : ∃ q, numN p2 = q := ⟨_, rfl⟩
    obtain ⟨tx, htx⟩ : ∃ q, kt l = q := ⟨_, rfl⟩
    have hp8l : p8.length ≤ 8 := by rw [← hp8]; simp; omega
    have hp16l : p16.length ≤ 8 := by rw [← hp16]; simp; omega
    have hp2l : p2.length ≤ 8 := by rw [← hp2]; simp; omega
    have hn16 : n0 < 65536 := by
      rw [← hn0, ← hp2]
      exact numN_take_lt _ 2
    have HG := Lib.hid (show g0 < 18446744073709551616 by rw [← hg0]; exact numN_lt8 p8 hp8l)
    have HF := Lib.hid (show f0 < 18446744073709551616 by rw [← hf0]; exact numN_lt8 p16 hp16l)
    have HNN := Lib.hid hn16
    have hwn : IntKind.i64.wrap (n0 : Int) = n0 := IntWalk.i64_in _ (by omega)
    have HTL := Lib.hid (show tx.length ≤ 64 by rw [← htx, kt, hk, List.length_take]; omega)
    have hxt : s.extract 19 (19 + k) = ⟨tx.toArray⟩ := by rw [← hs, ext_mid, ← htx, kt, hk, Nat.add_sub_cancel_left]
    have hwk : IntKind.i64.wrap (k : Int) = k := IntWalk.i64_in _ (by omega)
    obtain ⟨m, hme⟩ : ∃ m : Nat, m = 19 + k := ⟨_, rfl⟩
    rw [← hme] at hxt
    have hm : IntKind.i64.wrap ((19 : Int) + k) = (m : Int) := by rw [IntWalk.i64_in _ (by omega)]; omega
    have hm1 : m ≤ 512 := by omega
    have hm2 : 19 ≤ m := by omega
    have hm3 : ((m : Int)) ≤ 512 := by omega
    have hm4 : (19 : Int) ≤ m := by omega
    have hkhd : khd l = ⟨g0, f0, n0, tx⟩ := by rw [khd, kg, kf, kn, hp8, hp16, hp2, hg0, hf0, hn0, htx]
    obtain ⟨bb, hbb⟩ : ∃ bb, decide (hsec ⟨g0, f0, n0, tx⟩ = l) = bb := ⟨_, rfl⟩
    have HBB := Lib.hid (show (rheadS l).isSome = bb by
      rw [← hbb]
      unfold rheadS
      rw [hkhd]
      by_cases he : hsec ⟨g0, f0, n0, tx⟩ = l
      · rw [if_pos ⟨hl, by omega, he⟩, decide_eq_true he]; rfl
      · rw [if_neg (fun h => he h.2.2), decide_eq_false he]; rfl)
    have HHH := Lib.hid (show ∀ x, rheadS l = some x → (⟨g0, f0, n0, tx⟩ : Hd) = x from fun x hx => by
      unfold rheadS at hx
      rw [hkhd] at hx
      split at hx
      · injection hx
      · cases hx)
    obtain ⟨y, hy⟩ : ∃ y : ByteArray, ⟨(hsec ⟨g0, f0, n0, tx⟩).toArray⟩ = y := ⟨_, rfl⟩
    have hcmp : (y.toList == s.toList) = bb := by
      rw [← hy, ← hs, str_eq, ← hbb, Bool.eq_iff_iff]; simp
    have HY := Lib.hid hy
    have HP8 := Lib.hid hp8l
    have HP16 := Lib.hid hp16l
    have HP2 := Lib.hid hp2l
    have HQ8 := Lib.hid hg0
    have HQ16 := Lib.hid hf0
    have HQ2 := Lib.hid hn0
    rw [hs]
    clear hs hy hbb hkhd hme hp8l hp16l hp2l hg0 hf0 hn0 htx hp8 hp16 hp2 hk hk8 hl h64 hn16
    have B0 := Lib.hid (Box.new w 40 #[.int .u64 0, .int .u64 0, .int .i64 0, .string ⟨#[]⟩])
    have K0 := Lib.hid ((Kp.refl (fun _ => False) w).alloc (.cells #[.int .u64 0, .int .u64 0, .int .i64 0, .string ⟨#[]⟩] 40))
    have hz : (w.alloc (.cells #[.int .u64 0, .int .u64 0, .int .i64 0, .string ⟨#[]⟩] 40)).heap.size = w.heap.size + 1 := by simp
    go_enter Tryz.func84, Tryz.ntmps84
    go_upto_region 1 with fail
    generalize w.alloc (.cells #[.int .u64 0, .int .u64 0, .int .i64 0, .string ⟨#[]⟩] 40) = w0 at *
    go_upto_region 3 with fail
    refine wp_region_held_drew (S := fun _ => True) (by kernel_rfl) (trivial) (fun hHeld => ?_)
    refine tk 0 (h := ?_)
    refine tk 1 (h := ?_)
    refine tk 3 (h := ?_)
    refine tk 4 (h := ?_)
    refine tk 6 (h := ?_)
    refine tk 7 (h := ?_)
    refine tk 10 (h := ?_)
    refine tk 11 (h := ?_)
    refine tk 12 (h := ?_)
    refine tk 13 (h := ?_)
    refine tk 14 (h := ?_)
    refine tk 15 (h := ?_)
    refine wpAnyH_ready (rs := [2, 17]) (by kernel_rfl) (by simp) ?_
    refine rdc 2 (h := fun K hK => ?_) (hs := rdc 17 (h := fun K hK => ?_) (hs := AllReadyH.nil))
    · go_simp
      refine (value_any p8 w0.drew HP8.out).mono ?_
      rintro e wv ⟨rfl, rfl⟩
      rw [HQ8.out]
      go_wp2_with fail
      refine hK.out _ _ (trivial) (fun hHeld1 => ?_)
      clear hK K
      try simp only [Act.put, List.setIfInBounds_toArray, List.set_cons_zero, List.set_cons_succ]
      refine wpAnyH_ready (rs := [5, 17]) (by kernel_rfl) (by simp) ?_
      refine rdc 5 (h := fun K hK => ?_) (hs := rdc 17 (h := fun K hK => ?_) (hs := AllReadyH.nil))
      · go_simp
        refine (value_any p16 w0.drew HP16.out).mono ?_
        rintro e wv ⟨rfl, rfl⟩
        rw [HQ16.out]
        go_wp2_with fail
        refine hK.out _ _ (trivial) (fun hHeld2 => ?_)
        clear hK K
        try simp only [Act.put, List.setIfInBounds_toArray, List.set_cons_zero, List.set_cons_succ]
        refine wpAnyH_ready (rs := [8, 17]) (by kernel_rfl) (by simp) ?_
        refine rdc 8 (h := fun K hK => ?_) (hs := rdc 17 (h := fun K hK => ?_) (hs := AllReadyH.nil))
        · go_simp
          refine (value_any p2 w0.drew HP2.out).mono ?_
          rintro e wv ⟨rfl, rfl⟩
          rw [HQ2.out]
          go_wp2_with fail
          refine hK.out _ _ (trivial) (fun hHeld3 => ?_)
          clear hK K
          try simp only [Act.put, List.setIfInBounds_toArray, List.set_cons_zero, List.set_cons_succ]
          refine tk 9 (h := ?_)
          refine tk 16 (h := ?_)
          refine rd 17 (h := fun K hK => ?_)
          go_simp
          have B2 := Lib.hid (show Box (w0.alloc (.cells #[.int .u64 0, .int .u64 0, .int .i64 0, .string ⟨#[]⟩] 40)).drew (w.heap.size + 1) 40 #[.int .u64 0, .int .u64 0, .int .i64 0, .string ⟨#[]⟩] by rw [← hz]; exact Box.new w0 40 #[.int .u64 0, .int .u64 0, .int .i64 0, .string ⟨#[]⟩])
          have R2 := Lib.hid (show Box (w0.alloc (.cells #[.int .u64 0, .int .u64 0, .int .i64 0, .string ⟨#[]⟩] 40)).drew w.heap.size 40 #[.int .u64 0, .int .u64 0, .int .i64 0, .string ⟨#[]⟩] from B0.out.alloc _)
          have K2 := Lib.hid (show Kp (fun _ => False) w (w0.alloc (.cells #[.int .u64 0, .int .u64 0, .int .i64 0, .string ⟨#[]⟩] 40)).drew from (K0.out.alloc _).drew)
          generalize (w0.alloc (.cells #[.int .u64 0, .int .u64 0, .int .i64 0, .string ⟨#[]⟩] 40)).drew = w4 at *
          refine hK.out _ _ (trivial) (fun hHeld4 => ?_)
          clear hK K
          try simp only [Act.put, List.setIfInBounds_toArray, List.set_cons_zero, List.set_cons_succ]
          refine rd 18 (h := fun K hK => ?_)
          rw [if_pos (by rfl)]
          refine wp_store_box 40 (.tmp 4) (.tmp 30) rfl (w.heap.size + 1) [.int .u64 g0, .int .u64 f0, .int .i64 n0, .string ⟨tx.toArray⟩] rfl rfl B2.out rfl info_rhead (hd_one _ _ _ _) ?_
          intro w5 hb5 hk5
          have B5 := Lib.hid hb5
          have R5 := Lib.hid (R2.out.kp hk5 (fun e => by omega))
          have K5 := Lib.hid (K2.out.trans_new hk5 (fun b e => .inl (by omega)))
          clear hb5 hk5
          refine hK.out _ _ (trivial) (fun hHeld5 => ?_)
          clear hK K
          try simp only [Act.put]
          refine wpAnyH_done (by kernel_rfl) ?_ _
          go_upto_region 4 with fail
          refine wp_region_held_drew (S := fun v => v.cell? ⟨w.heap.size + 1, 0, none⟩ = some (.int .u64 g0) ∧ v.cell? ⟨w.heap.size + 1, 1, none⟩ = some (.int .u64 f0) ∧ v.cell? ⟨w.heap.size + 1, 2, none⟩ = some (.int .i64 n0) ∧ v.cell? ⟨w.heap.size + 1, 3, none⟩ = some (.string ⟨tx.toArray⟩)) (by kernel_rfl) (⟨B5.out.cell 0, B5.out.cell 1, B5.out.cell 2, B5.out.cell 3⟩) (fun hHeld => ?_)
          refine tk 0 (h := ?_)
          refine tk 1 (h := ?_)
          refine tk 3 (h := ?_)
          refine rd 2 (h := fun K hK => ?_)
          go_simp
          refine (hput6_any ⟨g0, f0, n0, tx⟩ w5.drew HG.out HF.out HNN.out HTL.out).mono ?_
          rintro e w6 ⟨rfl, hk⟩
          have B6 := Lib.hid (B5.out.drew.kp hk (fun e => e))
          have R6 := Lib.hid (R5.out.drew.kp hk (fun e => e))
          have K6 := Lib.hid (K5.out.drew.trans hk)
          clear hk
          rw [HY.out]
          go_wp2_with fail
          refine hK.out _ _ (⟨B6.out.cell 0, B6.out.cell 1, B6.out.cell 2, B6.out.cell 3⟩) (fun hHeld6 => ?_)
          clear hK K
          try simp only [Act.put, List.setIfInBounds_toArray, List.set_cons_zero, List.set_cons_succ]
          refine tk 4 (h := ?_)
          refine rd 5 (h := fun K hK => ?_)
          try rw [if_pos (by rfl)]
          refine wp_store_box 40 (.tmp 2) (.tmp 31) rfl w.heap.size [.int .u64 g0, .int .u64 f0, .int .i64 n0, .string ⟨tx.toArray⟩] rfl rfl R6.out rfl info_rhead (hd_one _ _ _ _) ?_
          intro w7 hb7 hk7
          have B7 := Lib.hid (B6.out.kp hk7 (fun e => by omega))
          have R7 := Lib.hid hb7
          have K7 := Lib.hid (K6.out.trans_new hk7 (fun b e => .inl (by omega)))
          clear hb7 hk7
          refine hK.out _ _ (⟨B7.out.cell 0, B7.out.cell 1, B7.out.cell 2, B7.out.cell 3⟩) (fun hHeld7 => ?_)
          clear hK K
          try simp only [Act.put]
          refine tk 6 (h := ?_)
          refine wpAnyH_done (by kernel_rfl) ?_ _
          go_wp2_with fail
          refine bodyPost_ret (v := .tuple #[.agg (hcsR ⟨g0, f0, n0, tx⟩), .bool bb]) ?_ rfl ⟨⟨g0, f0, n0, tx⟩, by rw [HBB.out], fun h hh => HHH.out h hh, K7.out⟩
          exact results_two hrtake_results _ _ w.heap.size 40 _ (0, 0) _ rfl R7.out Tryz.underlying40 rfl info_rhead
        · go_simp
          have B2 := Lib.hid (show Box (w0.alloc (.cells #[.int .u64 0, .int .u64 0, .int .i64 0, .string ⟨#[]⟩] 40)).drew (w.heap.size + 1) 40 #[.int .u64 0, .int .u64 0, .int .i64 0, .string ⟨#[]⟩] by rw [← hz]; exact Box.new w0 40 #[.int .u64 0, .int .u64 0, .int .i64 0, .string ⟨#[]⟩])
          have R2 := Lib.hid (show Box (w0.alloc (.cells #[.int .u64 0, .int .u64 0, .int .i64 0, .string ⟨#[]⟩] 40)).drew w.heap.size 40 #[.int .u64 0, .int .u64 0, .int .i64 0, .string ⟨#[]⟩] from B0.out.alloc _)
          have K2 := Lib.hid (show Kp (fun _ => False) w (w0.alloc (.cells #[.int .u64 0, .int .u64 0, .int .i64 0, .string ⟨#[]⟩] 40)).drew from (K0.out.alloc _).drew)
          generalize (w0.alloc (.cells #[.int .u64 0, .int .u64 0, .int .i64 0, .string ⟨#[]⟩] 40)).drew = w4 at *
          refine hK.out _ _ (trivial) (fun hHeld8 => ?_)
          clear hK K
          try simp only [Act.put, List.setIfInBounds_toArray, List.set_cons_zero, List.set_cons_succ]
          refine rd 8 (h := fun K hK => ?_)
          go_simp
          refine (value_any p2 w4 HP2.out).mono ?_
          rintro e wv ⟨rfl, rfl⟩
          rw [HQ2.out]
          go_wp2_with fail
          refine hK.out _ _ (trivial) (fun hHeld9 => ?_)
          clear hK K
          try simp only [Act.put, List.setIfInBounds_toArray, List.set_cons_zero, List.set_cons_succ]
          refine tk 9 (h := ?_)
          refine tk 16 (h := ?_)
          refine rd 18 (h := fun K hK => ?_)
          rw [if_pos (by rfl)]
          refine wp_store_box 40 (.tmp 4) (.tmp 30) rfl (w.heap.size + 1) [.int .u64 g0, .int .u64 f0, .int .i64 n0, .string ⟨tx.toArray⟩] rfl rfl B2.out rfl info_rhead (hd_one _ _ _ _) ?_
          intro w5 hb5 hk5
          have B5 := Lib.hid hb5
          have R5 := Lib.hid (R2.out.kp hk5 (fun e => by omega))
          have K5 := Lib.hid (K2.out.trans_new hk5 (fun b e => .inl (by omega)))
          clear hb5 hk5
          refine hK.out _ _ (trivial) (fun hHeld10 => ?_)
          clear hK K
          try simp only [Act.put]
          refine wpAnyH_done (by kernel_rfl) ?_ _
          go_upto_region 4 with fail
          refine wp_region_held_drew (S := fun v => v.cell? ⟨w.heap.size + 1, 0, none⟩ = some (.int .u64 g0) ∧ v.cell? ⟨w.heap.size + 1, 1, none⟩ = some (.int .u64 f0) ∧ v.cell? ⟨w.heap.size + 1, 2, none⟩ = some (.int .i64 n0) ∧ v.cell? ⟨w.heap.size + 1, 3, none⟩ = some (.string ⟨tx.toArray⟩)) (by kernel_rfl) (⟨B5.out.cell 0, B5.out.cell 1, B5.out.cell 2, B5.out.cell 3⟩) (fun hHeld => ?_)
          refine tk 0 (h := ?_)
          refine tk 1 (h := ?_)
          refine tk 3 (h := ?_)
          refine rd 2 (h := fun K hK => ?_)
          go_simp
          refine (hput6_any ⟨g0, f0, n0, tx⟩ w5.drew HG.out HF.out HNN.out HTL.out).mono ?_
          rintro e w6 ⟨rfl, hk⟩
          have B6 := Lib.hid (B5.out.drew.kp hk (fun e => e))
          have R6 := Lib.hid (R5.out.drew.kp hk (fun e => e))
          have K6 := Lib.hid (K5.out.drew.trans hk)
          clear hk
          rw [HY.out]
          go_wp2_with fail
          refine hK.out _ _ (⟨B6.out.cell 0, B6.out.cell 1, B6.out.cell 2, B6.out.cell 3⟩) (fun hHeld11 => ?_)
          clear hK K
          try simp only [Act.put, List.setIfInBounds_toArray, List.set_cons_zero, List.set_cons_succ]
          refine tk 4 (h := ?_)
          refine rd 5 (h := fun K hK => ?_)
          try rw [if_pos (by rfl)]
          refine wp_store_box 40 (.tmp 2) (.tmp 31) rfl w.heap.size [.int .u64 g0, .int .u64 f0, .int .i64 n0, .string ⟨tx.toArray⟩] rfl rfl R6.out rfl info_rhead (hd_one _ _ _ _) ?_
          intro w7 hb7 hk7
          have B7 := Lib.hid (B6.out.kp hk7 (fun e => by omega))
          have R7 := Lib.hid hb7
          have K7 := Lib.hid (K6.out.trans_new hk7 (fun b e => .inl (by omega)))
          clear hb7 hk7
          refine hK.out _ _ (⟨B7.out.cell 0, B7.out.cell 1, B7.out.cell 2, B7.out.cell 3⟩) (fun hHeld12 => ?_)
          clear hK K
          try simp only [Act.put]
          refine tk 6 (h := ?_)
          refine wpAnyH_done (by kernel_rfl) ?_ _
          go_wp2_with fail
          refine bodyPost_ret (v := .tuple #[.agg (hcsR ⟨g0, f0, n0, tx⟩), .bool bb]) ?_ rfl ⟨⟨g0, f0, n0, tx⟩, by rw [HBB.out], fun h hh => HHH.out h hh, K7.out⟩
          exact results_two hrtake_results _ _ w.heap.size 40 _ (0, 0) _ rfl R7.out Tryz.underlying40 rfl info_rhead
      · go_simp
        have B2 := Lib.hid (show Box (w0.alloc (.cells #[.int .u64 0, .int .u64 0, .int .i64 0, .string ⟨#[]⟩] 40)).drew (w.heap.size + 1) 40 #[.int .u64 0, .int .u64 0, .int .i64 0, .string ⟨#[]⟩] by rw [← hz]; exact Box.new w0 40 #[.int .u64 0, .int .u64 0, .int .i64 0, .string ⟨#[]⟩])
        have R2 := Lib.hid (show Box (w0.alloc (.cells #[.int .u64 0, .int .u64 0, .int .i64 0, .string ⟨#[]⟩] 40)).drew w.heap.size 40 #[.int .u64 0, .int .u64 0, .int .i64 0, .string ⟨#[]⟩] from B0.out.alloc _)
        have K2 := Lib.hid (show Kp (fun _ => False) w (w0.alloc (.cells #[.int .u64 0, .int .u64 0, .int .i64 0, .string ⟨#[]⟩] 40)).drew from (K0.out.alloc _).drew)
        generalize (w0.alloc (.cells #[.int .u64 0, .int .u64 0, .int .i64 0, .string ⟨#[]⟩] 40)).drew = w4 at *
        refine hK.out _ _ (trivial) (fun hHeld13 => ?_)
        clear hK K
        try simp only [Act.put, List.setIfInBounds_toArray, List.set_cons_zero, List.set_cons_succ]
        refine rd 5 (h := fun K hK => ?_)
        go_simp
        refine (value_any p16 w4 HP16.out).mono ?_
        rintro e wv ⟨rfl, rfl⟩
        rw [HQ16.out]
        go_wp2_with fail
        refine hK.out _ _ (trivial) (fun hHeld14 => ?_)
        clear hK K
        try simp only [Act.put, List.setIfInBounds_toArray, List.set_cons_zero, List.set_cons_succ]
        refine rd 8 (h := fun K hK => ?_)
        go_simp
        refine (value_any p2 w4 HP2.out).mono ?_
        rintro e wv ⟨rfl, rfl⟩
        rw [HQ2.out]
        go_wp2_with fail
        refine hK.out _ _ (trivial) (fun hHeld15 => ?_)
        clear hK K
        try simp only [Act.put, List.setIfInBounds_toArray, List.set_cons_zero, List.set_cons_succ]
        refine tk 9 (h := ?_)
        refine tk 16 (h := ?_)
        refine rd 18 (h := fun K hK => ?_)
        rw [if_pos (by rfl)]
        refine wp_store_box 40 (.tmp 4) (.tmp 30) rfl (w.heap.size + 1) [.int .u64 g0, .int .u64 f0, .int .i64 n0, .string ⟨tx.toArray⟩] rfl rfl B2.out rfl info_rhead (hd_one _ _ _ _) ?_
        intro w5 hb5 hk5
        have B5 := Lib.hid hb5
        have R5 := Lib.hid (R2.out.kp hk5 (fun e => by omega))
        have K5 := Lib.hid (K2.out.trans_new hk5 (fun b e => .inl (by omega)))
        clear hb5 hk5
        refine hK.out _ _ (trivial) (fun hHeld16 => ?_)
        clear hK K
        try simp only [Act.put]
        refine wpAnyH_done (by kernel_rfl) ?_ _
        go_upto_region 4 with fail
        refine wp_region_held_drew (S := fun v => v.cell? ⟨w.heap.size + 1, 0, none⟩ = some (.int .u64 g0) ∧ v.cell? ⟨w.heap.size + 1, 1, none⟩ = some (.int .u64 f0) ∧ v.cell? ⟨w.heap.size + 1, 2, none⟩ = some (.int .i64 n0) ∧ v.cell? ⟨w.heap.size + 1, 3, none⟩ = some (.string ⟨tx.toArray⟩)) (by kernel_rfl) (⟨B5.out.cell 0, B5.out.cell 1, B5.out.cell 2, B5.out.cell 3⟩) (fun hHeld => ?_)
        refine tk 0 (h := ?_)
        refine tk 1 (h := ?_)
        refine tk 3 (h := ?_)
        refine rd 2 (h := fun K hK => ?_)
        go_simp
        refine (hput6_any ⟨g0, f0, n0, tx⟩ w5.drew HG.out HF.out HNN.out HTL.out).mono ?_
        rintro e w6 ⟨rfl, hk⟩
        have B6 := Lib.hid (B5.out.drew.kp hk (fun e => e))
        have R6 := Lib.hid (R5.out.drew.kp hk (fun e => e))
        have K6 := Lib.hid (K5.out.drew.trans hk)
        clear hk
        rw [HY.out]
        go_wp2_with fail
        refine hK.out _ _ (⟨B6.out.cell 0, B6.out.cell 1, B6.out.cell 2, B6.out.cell 3⟩) (fun hHeld17 => ?_)
        clear hK K
        try simp only [Act.put, List.setIfInBounds_toArray, List.set_cons_zero, List.set_cons_succ]
        refine tk 4 (h := ?_)
        refine rd 5 (h := fun K hK => ?_)
        try rw [if_pos (by rfl)]
        refine wp_store_box 40 (.tmp 2) (.tmp 31) rfl w.heap.size [.int .u64 g0, .int .u64 f0, .int .i64 n0, .string ⟨tx.toArray⟩] rfl rfl R6.out rfl info_rhead (hd_one _ _ _ _) ?_
        intro w7 hb7 hk7
        have B7 := Lib.hid (B6.out.kp hk7 (fun e => by omega))
        have R7 := Lib.hid hb7
        have K7 := Lib.hid (K6.out.trans_new hk7 (fun b e => .inl (by omega)))
        clear hb7 hk7
        refine hK.out _ _ (⟨B7.out.cell 0, B7.out.cell 1, B7.out.cell 2, B7.out.cell 3⟩) (fun hHeld18 => ?_)
        clear hK K
        try simp only [Act.put]
        refine tk 6 (h := ?_)
        refine wpAnyH_done (by kernel_rfl) ?_ _
        go_wp2_with fail
        refine bodyPost_ret (v := .tuple #[.agg (hcsR ⟨g0, f0, n0, tx⟩), .bool bb]) ?_ rfl ⟨⟨g0, f0, n0, tx⟩, by rw [HBB.out], fun h hh => HHH.out h hh, K7.out⟩
        exact results_two hrtake_results _ _ w.heap.size 40 _ (0, 0) _ rfl R7.out Tryz.underlying40 rfl info_rhead
    · go_simp
      have B2 := Lib.hid (show Box (w0.alloc (.cells #[.int .u64 0, .int .u64 0, .int .i64 0, .string ⟨#[]⟩] 40)).drew (w.heap.size + 1) 40 #[.int .u64 0, .int .u64 0, .int .i64 0, .string ⟨#[]⟩] by rw [← hz]; exact Box.new w0 40 #[.int .u64 0, .int .u64 0, .int .i64 0, .string ⟨#[]⟩])
      have R2 := Lib.hid (show Box (w0.alloc (.cells #[.int .u64 0, .int .u64 0, .int .i64 0, .string ⟨#[]⟩] 40)).drew w.heap.size 40 #[.int .u64 0, .int .u64 0, .int .i64 0, .string ⟨#[]⟩] from B0.out.alloc _)
      have K2 := Lib.hid (show Kp (fun _ => False) w (w0.alloc (.cells #[.int .u64 0, .int .u64 0, .int .i64 0, .string ⟨#[]⟩] 40)).drew from (K0.out.alloc _).drew)
      generalize (w0.alloc (.cells #[.int .u64 0, .int .u64 0, .int .i64 0, .string ⟨#[]⟩] 40)).drew = w4 at *
      refine hK.out _ _ (trivial) (fun hHeld19 => ?_)
      clear hK K
      try simp only [Act.put, List.setIfInBounds_toArray, List.set_cons_zero, List.set_cons_succ]
      refine rd 2 (h := fun K hK => ?_)
      go_simp
      refine (value_any p8 w4 HP8.out).mono ?_
      rintro e wv ⟨rfl, rfl⟩
      rw [HQ8.out]
      go_wp2_with fail
      refine hK.out _ _ (trivial) (fun hHeld20 => ?_)
      clear hK K
      try simp only [Act.put, List.setIfInBounds_toArray, List.set_cons_zero, List.set_cons_succ]
      refine rd 5 (h := fun K hK => ?_)
      go_simp
      refine (value_any p16 w4 HP16.out).mono ?_
      rintro e wv ⟨rfl, rfl⟩
      rw [HQ16.out]
      go_wp2_with fail
      refine hK.out _ _ (trivial) (fun hHeld21 => ?_)
      clear hK K
      try simp only [Act.put, List.setIfInBounds_toArray, List.set_cons_zero, List.set_cons_succ]
      refine rd 8 (h := fun K hK => ?_)
      go_simp
      refine (value_any p2 w4 HP2.out).mono ?_
      rintro e wv ⟨rfl, rfl⟩
      rw [HQ2.out]
      go_wp2_with fail
      refine hK.out _ _ (trivial) (fun hHeld22 => ?_)
      clear hK K
      try simp only [Act.put, List.setIfInBounds_toArray, List.set_cons_zero, List.set_cons_succ]
      refine tk 9 (h := ?_)
      refine tk 16 (h := ?_)
      refine rd 18 (h := fun K hK => ?_)
      rw [if_pos (by rfl)]
      refine wp_store_box 40 (.tmp 4) (.tmp 30) rfl (w.heap.size + 1) [.int .u64 g0, .int .u64 f0, .int .i64 n0, .string ⟨tx.toArray⟩] rfl rfl B2.out rfl info_rhead (hd_one _ _ _ _) ?_
      intro w5 hb5 hk5
      have B5 := Lib.hid hb5
      have R5 := Lib.hid (R2.out.kp hk5 (fun e => by omega))
      have K5 := Lib.hid (K2.out.trans_new hk5 (fun b e => .inl (by omega)))
      clear hb5 hk5
      refine hK.out _ _ (trivial) (fun hHeld23 => ?_)
      clear hK K
      try simp only [Act.put]
      refine wpAnyH_done (by kernel_rfl) ?_ _
      go_upto_region 4 with fail
      refine wp_region_held_drew (S := fun v => v.cell? ⟨w.heap.size + 1, 0, none⟩ = some (.int .u64 g0) ∧ v.cell? ⟨w.heap.size + 1, 1, none⟩ = some (.int .u64 f0) ∧ v.cell? ⟨w.heap.size + 1, 2, none⟩ = some (.int .i64 n0) ∧ v.cell? ⟨w.heap.size + 1, 3, none⟩ = some (.string ⟨tx.toArray⟩)) (by kernel_rfl) (⟨B5.out.cell 0, B5.out.cell 1, B5.out.cell 2, B5.out.cell 3⟩) (fun hHeld => ?_)
      refine tk 0 (h := ?_)
      refine tk 1 (h := ?_)
      refine tk 3 (h := ?_)
      refine rd 2 (h := fun K hK => ?_)
      go_simp
      refine (hput6_any ⟨g0, f0, n0, tx⟩ w5.drew HG.out HF.out HNN.out HTL.out).mono ?_
      rintro e w6 ⟨rfl, hk⟩
      have B6 := Lib.hid (B5.out.drew.kp hk (fun e => e))
      have R6 := Lib.hid (R5.out.drew.kp hk (fun e => e))
      have K6 := Lib.hid (K5.out.drew.trans hk)
      clear hk
      rw [HY.out]
      go_wp2_with fail
      refine hK.out _ _ (⟨B6.out.cell 0, B6.out.cell 1, B6.out.cell 2, B6.out.cell 3⟩) (fun hHeld24 => ?_)
      clear hK K
      try simp only [Act.put, List.setIfInBounds_toArray, List.set_cons_zero, List.set_cons_succ]
      refine tk 4 (h := ?_)
      refine rd 5 (h := fun K hK => ?_)
      try rw [if_pos (by rfl)]
      refine wp_store_box 40 (.tmp 2) (.tmp 31) rfl w.heap.size [.int .u64 g0, .int .u64 f0, .int .i64 n0, .string ⟨tx.toArray⟩] rfl rfl R6.out rfl info_rhead (hd_one _ _ _ _) ?_
      intro w7 hb7 hk7
      have B7 := Lib.hid (B6.out.kp hk7 (fun e => by omega))
      have R7 := Lib.hid hb7
      have K7 := Lib.hid (K6.out.trans_new hk7 (fun b e => .inl (by omega)))
      clear hb7 hk7
      refine hK.out _ _ (⟨B7.out.cell 0, B7.out.cell 1, B7.out.cell 2, B7.out.cell 3⟩) (fun hHeld25 => ?_)
      clear hK K
      try simp only [Act.put]
      refine tk 6 (h := ?_)
      refine wpAnyH_done (by kernel_rfl) ?_ _
      go_wp2_with fail
      refine bodyPost_ret (v := .tuple #[.agg (hcsR ⟨g0, f0, n0, tx⟩), .bool bb]) ?_ rfl ⟨⟨g0, f0, n0, tx⟩, by rw [HBB.out], fun h hh => HHH.out h hh, K7.out⟩
      exact results_two hrtake_results _ _ w.heap.size 40 _ (0, 0) _ rfl R7.out Tryz.underlying40 rfl info_rhead
theorem hrtake_any (l : List UInt8) (w : World) :
    Calls Tryz.prog 84 #[.string ⟨l.toArray⟩] w fun e w' => ∃ h, e = .returned (.tuple #[.agg (hcsR h), .bool (rheadS l).isSome]) ∧ (∀ x, rheadS l = some x → h = x) ∧ Kp (fun _ => False) w w' := by
  by_cases hl : l.length = 512
  · exact hrtake_whole l w hl
  · exact hrtake_odd l w hl
end Go.Proofs.YtfcljcikajaedaaGreatDoor
