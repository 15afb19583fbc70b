/- The document's own sheet of bytes. Condition: at most 2^20 bytes. -/
import Derived.Test.YtdacjhgjaneeeaaDoorShRef
import Derived.Test.YtdacjhgjaneeeaaDoorShTake
namespace Go.Proofs.YtdacjhgjaneeeaaDoor
open Go.RowKit

theorem info_rsheet : (Tryd.prog.info? 24).map (·.size) = some 3 := by kernel_rfl
theorem rtake_results : Tryd.f11.results = #[.cell 2 24, .tmp 3] := rfl
theorem wp_store_box {P : Program} {op : Oper} {a : Act} {w : World} {K : Act → World → Prop} {Q : Exit → Act → World → Prop} (ty : TypeId) (x y : Operand) (ho : op.op = .store ty x y)
    (g : Nat) (cs : List Value) (hx : a.eval x = .pointer (some ⟨g, 0, none⟩)) (hy : a.eval y = .agg cs.toArray) {t : TypeId} {old : Array Value} (hb : Box w g t old) (hs : old.size = cs.length)
    (hi : (P.info? ty).map (·.size) = some cs.length) (h1 : ∀ v ∈ cs, v.oneCell' = true)
    (h : ∀ W, Box W g t cs.toArray → Kp (fun k => k = g) w W → K (a.put op.dst undef) W) : op.wp P a w K Q := by
  have hb' : Box w g t old.toList.toArray := hb
  refine wp_store_mid ty x y ho g 0 cs.toArray hx hy ?_ (by simpa using hi) (all_oneCell_toArray h1) ?_
  · have := hb'.there
    simp only [List.size_toArray, Array.length_toList] at this ⊢
    rw [← hs]
    exact this
  · refine h _ ?_ (Kp.setCells _ 0 w (Kp.refl _ w) (.inr rfl))
    exact hb'.write (by simpa using hs.symm)
theorem ext_mid (l : List UInt8) (a b : Nat) : (⟨l.toArray⟩ : ByteArray).extract a b = ⟨((l.drop a).take (b - a)).toArray⟩ := by
  apply ByteArray.ext
  simp [ByteArray.data_extract]

set_option maxRecDepth 100000 in
set_option maxHeartbeats 1000000 in
theorem rtake_odd (s : ByteArray) (w : World) (hn : s.size ≠ 512) :
    Calls Tryd.prog 11 #[.string s] w fun e w' => e = .returned (.tuple #[sv 0 false ⟨#[]⟩, .int .i64 3]) ∧ Kp (fun _ => False) w w' := by
  have hnn : ((s.size : Int) != 512) = true := by simp; omega
  have B0 := Lib.hid (Box.new w 24 #[.int .u64 0, .bool false, .string ⟨#[]⟩])
  have K0 := Lib.hid ((Kp.refl (fun _ => False) w).alloc (.cells #[.int .u64 0, .bool false, .string ⟨#[]⟩] 24))
  have hz : (w.alloc (.cells #[.int .u64 0, .bool false, .string ⟨#[]⟩] 24)).heap.size = w.heap.size + 1 := by simp
  go_enter Tryd.func11, Tryd.ntmps11
  go_upto_region 1 with fail
  generalize w.alloc (.cells #[.int .u64 0, .bool false, .string ⟨#[]⟩] 24) = w0 at *
  go_wp2_with (first | (refine wpList_store_box rfl 24 (.tmp 2) (.tmp 9) rfl w.heap.size [.int .u64 0, .bool false, .string ⟨#[]⟩] rfl rfl B0.out rfl info_rsheet (sh_one _ _ _) ?_; intro W hb hk) | fail)
  have KF : Kp (fun _ => False) w W := K0.out.trans_new hk (fun b e => .inl (by omega))
  refine bodyPost_ret (v := .tuple #[sv 0 false ⟨#[]⟩, .int .i64 3]) ?_ rfl ⟨rfl, KF⟩
  exact results_two rtake_results _ _ w.heap.size 24 _ (0, 0) _ rfl hb Tryd.underlying24 rfl info_rsheet


set_option maxRecDepth 100000 in
set_option maxHeartbeats 2000000 in
theorem rtake_whole (l : List UInt8) (w : World) (hl : l.length = 512) :
    Calls Tryd.prog 11 #[.string ⟨l.toArray⟩] w fun e w' => e = .returned (takeV l) ∧ Kp (fun _ => False) w w' := by
  obtain ⟨s, hs⟩ : ∃ s : ByteArray, ⟨l.toArray⟩ = s := ⟨_, rfl⟩
  have hsz : s.size = 512 := by rw [← hs]; show l.toArray.size = 512; simpa using hl
  obtain ⟨p2, hp2⟩ : ∃ p, (l.drop 9).take 2 = p := ⟨_, rfl⟩
  obtain ⟨p8, hp8⟩ : ∃ p, l.take 8 = p := ⟨_, rfl⟩
  have hx2 : s.extract 9 11 = ⟨p2.toArray⟩ := by rw [← hs, ext_mid, ← hp2]
  have hx8 : s.extract 0 8 = ⟨p8.toArray⟩ := by rw [← hs, ext_mid, ← hp8]; rfl
  obtain ⟨k, hk⟩ : ∃ k, numN ((l.drop 8).take 1) = k := ⟨_, rfl⟩
  have hk8 : (l[8]'(by omega)).toNat = k := by
    rw [← hk]
    have : (l.drop 8).take 1 = [l[8]'(by omega)] := by rw [List.drop_eq_getElem_cons (by omega)]; rfl
    rw [this]
    simp [numN]
  have hidx : ∀ w : World, (Instr.index 9 (.string s) (.int .i64 8)).run Tryd.prog w = .ok (.int .u8 (k : Int)) w := by
    intro w
    rw [run_index_string (h := Tryd.underlying9)]
    have h8 : (0 : Int) ≤ 8 ∧ (8 : Int) < s.size := ⟨by decide, by rw [hsz]; decide⟩
    rw [dif_pos h8]
    have e : s[Int.toNat 8]'(by rw [hsz]; decide) = l[8]'(by omega) := by subst hs; rfl
    rw [← hk8, ← e]
  obtain ⟨n, hn⟩ : ∃ n, tn l = n := ⟨_, rfl⟩
  have hnp : numN p2 = n := by rw [← hn, tn, hp2]
  have hn16 : n < 65536 := by
    rw [← hnp]
    have := numN_lt p2
    rw [← hp2] at this ⊢
    rw [List.length_take, List.length_drop, hl] at this
    exact this
  have hwn : IntKind.i64.wrap (n : Int) = n := IntWalk.i64_in _ (by omega)
  obtain ⟨tx, htx⟩ : ∃ tx, tt l = tx := ⟨_, rfl⟩
  have hxt : s.extract 11 (11 + n) = ⟨tx.toArray⟩ := by rw [← hs, ext_mid, ← htx, tt, hn, Nat.add_sub_cancel_left]
  have htl : n ≤ 497 → tx.length = n := by intro h; rw [← htx, tt, hn, List.length_take, List.length_drop, hl]; omega
  have hp2l : p2.length ≤ 8 := by rw [← hp2]; simp; omega
  have hp8l : p8.length ≤ 8 := by rw [← hp8]; simp; omega
  obtain ⟨q, hq⟩ : ∃ q, numN p8 = q := ⟨_, rfl⟩
  have hq64 : q < 18446744073709551616 := by rw [← hq]; exact numN_lt8 p8 hp8l
  have HTQ := Lib.hid (show tq l = q by rw [← hq, tq, hp8])
  have HKL := Lib.hid (show tl l = decide (k = 2) by rw [tl, hk])
  have HN := Lib.hid hn
  have HTX := Lib.hid htx
  have HTL := Lib.hid htl
  have HL := Lib.hid hl
  have HP8 := Lib.hid hp8l
  have HQ := Lib.hid hq
  have HS := Lib.hid hs
  have hnone : 497 < n → takeS l = none := fun h => by unfold takeS; rw [hn, if_neg (by omega)]
  have hkind : k ≠ 1 → k ≠ 2 → takeS l = none := fun h1 h2 => takeS_kind (by rw [hk]; exact h1) (by rw [hk]; exact h2)
  have HNone := Lib.hid hnone
  have HKind := Lib.hid hkind
  rw [hs]
  clear hnone hkind hn htx htl hp8l hq hs hk8 hk hp8 hp2 hl
  have B0 := Lib.hid (Box.new w 24 #[.int .u64 0, .bool false, .string ⟨#[]⟩])
  have K0 := Lib.hid ((Kp.refl (fun _ => False) w).alloc (.cells #[.int .u64 0, .bool false, .string ⟨#[]⟩] 24))
  have hz : (w.alloc (.cells #[.int .u64 0, .bool false, .string ⟨#[]⟩] 24)).heap.size = w.heap.size + 1 := by simp
  go_enter Tryd.func11, Tryd.ntmps11
  go_upto_region 1 with fail
  generalize w.alloc (.cells #[.int .u64 0, .bool false, .string ⟨#[]⟩] 24) = w0 at *
  go_wp2_with fail
  refine (value_any p2 w0 hp2l).mono ?_
  rintro e w1 ⟨rfl, rfl⟩
  rw [hnp]
  clear hp2l hx2 hnp
  by_cases hn1 : 497 < n
  · have hd : decide ((497 : Int) < (n : Int)) = true := by simp; omega
    have HV := Lib.hid (takeV_none (HNone.out hn1))
    go_wp2_with (first | (refine wpList_store_box rfl 24 (.tmp 2) (.tmp 26) rfl w.heap.size [.int .u64 0, .bool false, .string ⟨#[]⟩] rfl rfl B0.out rfl info_rsheet (sh_one _ _ _) ?_; intro W hb hk) | fail)
    have KF : Kp (fun _ => False) w W := K0.out.trans_new hk (fun b e => .inl (by omega))
    rw [HV.out]
    refine bodyPost_ret (v := .tuple #[sv 0 false ⟨#[]⟩, .int .i64 3]) ?_ rfl ⟨rfl, KF⟩
    exact results_two rtake_results _ _ w.heap.size 24 _ (0, 0) _ rfl hb Tryd.underlying24 rfl info_rsheet

  · have hd : decide ((497 : Int) < (n : Int)) = false := by simp; omega
    by_cases hk12 : k = 1 ∨ k = 2
    · obtain ⟨kb, hkb⟩ : ∃ kb, decide (k = 2) = kb := ⟨_, rfl⟩
      have hb2 : (((k : Nat) : Int) == 2) = kb := by
        rw [← hkb, Bool.eq_iff_iff]; simp; omega
      have hg1 : (((k : Nat) : Int) != 1) = kb := by
        rw [← hkb, Bool.eq_iff_iff]; simp; omega
      have hg2 : (((k : Nat) : Int) != 2) = !kb := by
        rw [← hkb]; rcases hk12 with rfl | rfl <;> rfl
      have HKB := Lib.hid hkb
      clear hkb hk12
      cases kb
      · simp only [Bool.not_true, Bool.not_false] at hg2
        go_upto_region 6 with fail
        obtain ⟨m, hme⟩ : ∃ m : Nat, m = 11 + n := ⟨_, rfl⟩
        rw [← hme] at hxt
        have hm : IntKind.i64.wrap ((11 : Int) + n) = (m : Int) := by rw [IntWalk.i64_in _ (by omega)]; omega
        have hm1 : m ≤ 512 := by omega
        have hm2 : 11 ≤ m := by omega
        have hm3 : ((m : Int)) ≤ 512 := by omega
        have hm4 : (11 : Int) ≤ m := by omega
        clear hme
        have R1 := Lib.hid (B0.out.drew)
        have K1 := Lib.hid (K0.out.drew)
        clear hg1 hg2
        refine wp_region_held_drew (S := fun _ => True) (by kernel_rfl) (trivial) (fun hHeld => ?_)
        refine wpAnyH_take (i := 0) (oi := { dst := some 27, op := Op.move (Operand.tmp 0), type := 9, pos := "ref.go:46", after := #[], guard := none }) (v := ?_) rfl (by kernel_rfl) (by kernel_rfl) (by kernel_rfl) (fun _ _ _ h => h) (Or.inl ⟨by rfl, ?_⟩) (by assumption) ?_
        rotate_left
        · intro v hSw
          try dsimp only at hSw
          go_simp
          with_reducible rfl
        try simp only [Act.put, List.setIfInBounds_toArray, List.set_cons_zero, List.set_cons_succ]
        refine wpAnyH_take (i := 1) (oi := { dst := some 28, op := Op.slice 9 (Operand.tmp 27) none (some (Operand.const (Value.int IntKind.i64 8))) none, type := 9, pos := "ref.go:46", after := #[{ on := 0, ground := Ground.data }], guard := none }) (v := ?_) rfl (by kernel_rfl) (by kernel_rfl) (by kernel_rfl) (fun _ _ _ h => h) (Or.inl ⟨by rfl, ?_⟩) (by assumption) ?_
        rotate_left
        · intro v hSw
          try dsimp only at hSw
          go_simp
          with_reducible rfl
        try simp only [Act.put, List.setIfInBounds_toArray, List.set_cons_zero, List.set_cons_succ]
        refine wpAnyH_take (i := 3) (oi := { dst := some 30, op := Op.move (Operand.tmp 0), type := 9, pos := "ref.go:46", after := #[], guard := none }) (v := ?_) rfl (by kernel_rfl) (by kernel_rfl) (by kernel_rfl) (fun _ _ _ h => h) (Or.inl ⟨by rfl, ?_⟩) (by assumption) ?_
        rotate_left
        · intro v hSw
          try dsimp only at hSw
          go_simp
          with_reducible rfl
        try simp only [Act.put, List.setIfInBounds_toArray, List.set_cons_zero, List.set_cons_succ]
        refine wpAnyH_take (i := 4) (oi := { dst := some 31, op := Op.index 9 (Operand.tmp 30) (Operand.const (Value.int IntKind.i64 8)), type := 5, pos := "ref.go:46", after := #[{ on := 3, ground := Ground.data }], guard := none }) (v := ?_) rfl (by kernel_rfl) (by kernel_rfl) (by kernel_rfl) (fun _ _ _ h => h) (Or.inl ⟨by rfl, ?_⟩) (by assumption) ?_
        rotate_left
        · intro v hSw
          try dsimp only at hSw
          go_simp
          with_reducible rfl
        try simp only [Act.put, List.setIfInBounds_toArray, List.set_cons_zero, List.set_cons_succ]
        refine wpAnyH_take (i := 5) (oi := { dst := some 32, op := Op.binOp BinOp.eql 5 (Operand.tmp 31) (Operand.const (Value.int IntKind.u8 2)) 5, type := 4, pos := "ref.go:46", after := #[{ on := 4, ground := Ground.data }], guard := none }) (v := ?_) rfl (by kernel_rfl) (by kernel_rfl) (by kernel_rfl) (fun _ _ _ h => h) (Or.inl ⟨by rfl, ?_⟩) (by assumption) ?_
        rotate_left
        · intro v hSw
          try dsimp only at hSw
          go_simp
          with_reducible rfl
        try simp only [Act.put, List.setIfInBounds_toArray, List.set_cons_zero, List.set_cons_succ]
        refine wpAnyH_take (i := 6) (oi := { dst := some 33, op := Op.move (Operand.tmp 0), type := 9, pos := "ref.go:46", after := #[], guard := none }) (v := ?_) rfl (by kernel_rfl) (by kernel_rfl) (by kernel_rfl) (fun _ _ _ h => h) (Or.inl ⟨by rfl, ?_⟩) (by assumption) ?_
        rotate_left
        · intro v hSw
          try dsimp only at hSw
          go_simp
          with_reducible rfl
        try simp only [Act.put, List.setIfInBounds_toArray, List.set_cons_zero, List.set_cons_succ]
        refine wpAnyH_take (i := 7) (oi := { dst := some 34, op := Op.move (Operand.tmp 4), type := 3, pos := "ref.go:46", after := #[], guard := none }) (v := ?_) rfl (by kernel_rfl) (by kernel_rfl) (by kernel_rfl) (fun _ _ _ h => h) (Or.inl ⟨by rfl, ?_⟩) (by assumption) ?_
        rotate_left
        · intro v hSw
          try dsimp only at hSw
          go_simp
          with_reducible rfl
        try simp only [Act.put, List.setIfInBounds_toArray, List.set_cons_zero, List.set_cons_succ]
        refine wpAnyH_take (i := 8) (oi := { dst := some 35, op := Op.binOp BinOp.add 3 (Operand.const (Value.int IntKind.i64 11)) (Operand.tmp 34) 3, type := 3, pos := "ref.go:46", after := #[{ on := 7, ground := Ground.data }], guard := none }) (v := ?_) rfl (by kernel_rfl) (by kernel_rfl) (by kernel_rfl) (fun _ _ _ h => h) (Or.inl ⟨by rfl, ?_⟩) (by assumption) ?_
        rotate_left
        · intro v hSw
          try dsimp only at hSw
          go_simp
          with_reducible rfl
        try simp only [Act.put, List.setIfInBounds_toArray, List.set_cons_zero, List.set_cons_succ]
        refine wpAnyH_take (i := 9) (oi := { dst := some 36, op := Op.slice 9 (Operand.tmp 33) (some (Operand.const (Value.int IntKind.i64 11))) (some (Operand.tmp 35)) none, type := 9, pos := "ref.go:46", after := #[{ on := 6, ground := Ground.data }, { on := 8, ground := Ground.data }], guard := none }) (v := ?_) rfl (by kernel_rfl) (by kernel_rfl) (by kernel_rfl) (fun _ _ _ h => h) (Or.inl ⟨by rfl, ?_⟩) (by assumption) ?_
        rotate_left
        · intro v hSw
          try dsimp only at hSw
          go_simp
          with_reducible rfl
        try simp only [Act.put, List.setIfInBounds_toArray, List.set_cons_zero, List.set_cons_succ]
        refine wpAnyH_ready (rs := [2, 11]) (by kernel_rfl) (by simp) ?_
        refine AllReadyH.cons (o := { dst := some 29, op := Op.call { callee := Callee.value (Operand.func 30), args := #[Operand.tmp 28], argTypes := #[9] }, type := 22, pos := "ref.go:46", after := #[{ on := 1, ground := Ground.data }], guard := none }) rfl (fun K hK => ?_) (AllReadyH.cons (o := { dst := some 5, op := Op.alloc 24, type := 0, pos := "ref.go:46", after := #[], guard := none }) rfl (fun K hK => ?_) AllReadyH.nil)
        · go_simp
          refine (value_any p8 w0.drew HP8.out).mono ?_
          rintro e w3 ⟨rfl, rfl⟩
          rw [HQ.out]
          go_wp2_with fail
          refine hK.out _ _ (trivial) (fun hHeld2 => ?_)
          clear hK K
          try simp only [Act.put, List.setIfInBounds_toArray, List.set_cons_zero, List.set_cons_succ]
          refine wpAnyH_take (i := 10) (oi := { dst := some 37, op := Op.build 24 #[(0, Operand.tmp 29), (1, Operand.tmp 32), (2, Operand.tmp 36)], type := 24, pos := "ref.go:46", after := #[{ on := 2, ground := Ground.data }, { on := 5, ground := Ground.data }, { on := 9, ground := Ground.data }], guard := none }) (v := ?_) rfl (by kernel_rfl) (by kernel_rfl) (by kernel_rfl) (fun _ _ _ h => h) (Or.inl ⟨by rfl, ?_⟩) (by assumption) ?_
          rotate_left
          · intro v hSw
            try dsimp only at hSw
            go_simp
            with_reducible rfl
          try simp only [Act.put, List.setIfInBounds_toArray, List.set_cons_zero, List.set_cons_succ]
          refine wpAnyH_ready (rs := [11]) (by kernel_rfl) (by simp) ?_
          refine AllReadyH.cons (o := { dst := some 5, op := Op.alloc 24, type := 0, pos := "ref.go:46", after := #[], guard := none }) rfl (fun K hK => ?_) AllReadyH.nil
          go_simp
          have B2 := Lib.hid (show Box (w0.alloc (.cells #[.int .u64 0, .bool false, .string ⟨#[]⟩] 24)).drew (w.heap.size + 1) 24 #[.int .u64 0, .bool false, .string ⟨#[]⟩] by rw [← hz]; exact Box.new w0 24 #[.int .u64 0, .bool false, .string ⟨#[]⟩])
          have R2 := Lib.hid (show Box (w0.alloc (.cells #[.int .u64 0, .bool false, .string ⟨#[]⟩] 24)).drew w.heap.size 24 #[.int .u64 0, .bool false, .string ⟨#[]⟩] from B0.out.alloc _)
          have K2 := Lib.hid (show Kp (fun _ => False) w (w0.alloc (.cells #[.int .u64 0, .bool false, .string ⟨#[]⟩] 24)).drew from (K0.out.alloc _).drew)
          generalize (w0.alloc (.cells #[.int .u64 0, .bool false, .string ⟨#[]⟩] 24)).drew = w4 at *
          refine hK.out _ _ (trivial) (fun hHeld3 => ?_)
          clear hK K
          try simp only [Act.put, List.setIfInBounds_toArray, List.set_cons_zero, List.set_cons_succ]
          refine wpAnyH_ready (rs := [12]) (by kernel_rfl) (by simp) ?_
          refine AllReadyH.cons (o := { dst := none, op := Op.store 24 (Operand.tmp 5) (Operand.tmp 37), type := 0, pos := "ref.go:46", after := #[{ on := 11, ground := Ground.data }, { on := 10, ground := Ground.data }, { on := 2, ground := Ground.chain }, { on := 0, ground := Ground.phase }, { on := 1, ground := Ground.phase }, { on := 2, ground := Ground.phase }, { on := 3, ground := Ground.phase }, { on := 4, ground := Ground.phase }, { on := 5, ground := Ground.phase }, { on := 6, ground := Ground.phase }, { on := 7, ground := Ground.phase }, { on := 8, ground := Ground.phase }, { on := 9, ground := Ground.phase }, { on := 10, ground := Ground.phase }, { on := 11, ground := Ground.phase }], guard := none }) rfl (fun K hK => ?_) AllReadyH.nil
          rw [if_pos (by rfl)]
          refine wp_store_box 24 (.tmp 5) (.tmp 37) rfl (w.heap.size + 1) [.int .u64 q, .bool false, .string ⟨tx.toArray⟩] rfl rfl B2.out rfl info_rsheet (sh_one _ _ _) ?_
          intro w5 hb5 hk5
          have B5 := Lib.hid hb5
          have R5 := Lib.hid (R2.out.kp hk5 (fun e => by omega))
          have K5 := Lib.hid (K2.out.trans_new hk5 (fun b e => .inl (by omega)))
          clear hb5 hk5
          refine hK.out _ _ (trivial) (fun hHeld1 => ?_)
          clear hK K
          try simp only [Act.put, List.setIfInBounds_toArray, List.set_cons_zero, List.set_cons_succ]
          refine wpAnyH_done (by kernel_rfl) ?_ _
          go_wp2_with (first | (refine wpList_load_mid rfl 24 (.tmp 5) rfl (w.heap.size + 1) 0 rfl [.int .u64 q, .bool false, .string ⟨tx.toArray⟩] _ (Box.range' (L := [.int .u64 q, .bool false, .string ⟨tx.toArray⟩]) B5.out) Tryd.underlying24 rfl info_rsheet ?_) | fail)
          refine (rput_any q false tx w5 hq64 (by rw [HTL.out (by omega)]; omega)).mono ?_
          rintro e w6 ⟨rfl, hk⟩
          have B6 := Lib.hid (B5.out.kp hk (fun e => e))
          have R6 := Lib.hid (R5.out.kp hk (fun e => e))
          have K6 := Lib.hid (K5.out.trans hk)
          clear hk
          have hcmp : ((⟨(secL q false tx).toArray⟩ : ByteArray).toList == s.toList) = decide (secL q false tx = l) := by
            rw [← HS.out, str_eq, Bool.eq_iff_iff]; simp
          obtain ⟨y, hy⟩ : ∃ y : ByteArray, ⟨(secL q false tx).toArray⟩ = y := ⟨_, rfl⟩
          rw [hy] at hcmp ⊢
          have HY := Lib.hid hy
          clear hy
          by_cases heq : secL q false tx = l
          · rw [decide_eq_true heq] at hcmp
            have HV := Lib.hid (takeV_some (l := l) (s := ⟨q, false, tx⟩) (by unfold takeS; rw [HTQ.out, HKL.out, HKB.out, HTX.out, HN.out, if_pos ⟨HL.out, by omega, heq⟩]))
            clear heq
            go_wp2_with (first | (refine wpList_load_mid rfl 24 (.tmp 5) rfl (w.heap.size + 1) 0 rfl [.int .u64 q, .bool false, .string ⟨tx.toArray⟩] _ (Box.range' (L := [.int .u64 q, .bool false, .string ⟨tx.toArray⟩]) B6.out) Tryd.underlying24 rfl info_rsheet ?_) | (refine wpList_store_box rfl 24 (.tmp 2) (.tmp 43) rfl w.heap.size [.int .u64 q, .bool false, .string ⟨tx.toArray⟩] rfl rfl R6.out rfl info_rsheet (sh_one _ _ _) ?_; intro W hb hk) | fail)
            have KF : Kp (fun _ => False) w W := K6.out.trans_new hk (fun b e => .inl (by omega))
            rw [HV.out]
            refine bodyPost_ret (v := .tuple #[sv q false ⟨tx.toArray⟩, .int .i64 0]) ?_ rfl ⟨rfl, KF⟩
            exact results_two rtake_results _ _ w.heap.size 24 _ (0, 0) _ rfl hb Tryd.underlying24 rfl info_rsheet
          · rw [decide_eq_false heq] at hcmp
            have HV := Lib.hid (takeV_none (l := l) (by unfold takeS; rw [HTQ.out, HKL.out, HKB.out, HTX.out, HN.out, if_neg (fun h => heq h.2.2)]))
            clear heq
            go_wp2_with (first | (refine wpList_store_box rfl 24 (.tmp 2) (.tmp 42) rfl w.heap.size [.int .u64 0, .bool false, .string ⟨#[]⟩] rfl rfl R6.out rfl info_rsheet (sh_one _ _ _) ?_; intro W hb hk) | fail)
            have KF : Kp (fun _ => False) w W := K6.out.trans_new hk (fun b e => .inl (by omega))
            rw [HV.out]
            refine bodyPost_ret (v := .tuple #[sv 0 false ⟨#[]⟩, .int .i64 3]) ?_ rfl ⟨rfl, KF⟩
            exact results_two rtake_results _ _ w.heap.size 24 _ (0, 0) _ rfl hb Tryd.underlying24 rfl info_rsheet
          
        · go_simp
          have B2 := Lib.hid (show Box (w0.alloc (.cells #[.int .u64 0, .bool false, .string ⟨#[]⟩] 24)).drew (w.heap.size + 1) 24 #[.int .u64 0, .bool false, .string ⟨#[]⟩] by rw [← hz]; exact Box.new w0 24 #[.int .u64 0, .bool false, .string ⟨#[]⟩])
          have R2 := Lib.hid (show Box (w0.alloc (.cells #[.int .u64 0, .bool false, .string ⟨#[]⟩] 24)).drew w.heap.size 24 #[.int .u64 0, .bool false, .string ⟨#[]⟩] from B0.out.alloc _)
          have K2 := Lib.hid (show Kp (fun _ => False) w (w0.alloc (.cells #[.int .u64 0, .bool false, .string ⟨#[]⟩] 24)).drew from (K0.out.alloc _).drew)
          generalize (w0.alloc (.cells #[.int .u64 0, .bool false, .string ⟨#[]⟩] 24)).drew = w4 at *
          refine hK.out _ _ (trivial) (fun hHeld4 => ?_)
          clear hK K
          try simp only [Act.put, List.setIfInBounds_toArray, List.set_cons_zero, List.set_cons_succ]
          refine wpAnyH_ready (rs := [2]) (by kernel_rfl) (by simp) ?_
          refine AllReadyH.cons (o := { dst := some 29, op := Op.call { callee := Callee.value (Operand.func 30), args := #[Operand.tmp 28], argTypes := #[9] }, type := 22, pos := "ref.go:46", after := #[{ on := 1, ground := Ground.data }], guard := none }) rfl (fun K hK => ?_) AllReadyH.nil
          go_simp
          refine (value_any p8 w4 HP8.out).mono ?_
          rintro e w3 ⟨rfl, rfl⟩
          rw [HQ.out]
          go_wp2_with fail
          refine hK.out _ _ (trivial) (fun hHeld5 => ?_)
          clear hK K
          try simp only [Act.put, List.setIfInBounds_toArray, List.set_cons_zero, List.set_cons_succ]
          refine wpAnyH_take (i := 10) (oi := { dst := some 37, op := Op.build 24 #[(0, Operand.tmp 29), (1, Operand.tmp 32), (2, Operand.tmp 36)], type := 24, pos := "ref.go:46", after := #[{ on := 2, ground := Ground.data }, { on := 5, ground := Ground.data }, { on := 9, ground := Ground.data }], guard := none }) (v := ?_) rfl (by kernel_rfl) (by kernel_rfl) (by kernel_rfl) (fun _ _ _ h => h) (Or.inl ⟨by rfl, ?_⟩) (by assumption) ?_
          rotate_left
          · intro v hSw
            try dsimp only at hSw
            go_simp
            with_reducible rfl
          try simp only [Act.put, List.setIfInBounds_toArray, List.set_cons_zero, List.set_cons_succ]
          refine wpAnyH_ready (rs := [12]) (by kernel_rfl) (by simp) ?_
          refine AllReadyH.cons (o := { dst := none, op := Op.store 24 (Operand.tmp 5) (Operand.tmp 37), type := 0, pos := "ref.go:46", after := #[{ on := 11, ground := Ground.data }, { on := 10, ground := Ground.data }, { on := 2, ground := Ground.chain }, { on := 0, ground := Ground.phase }, { on := 1, ground := Ground.phase }, { on := 2, ground := Ground.phase }, { on := 3, ground := Ground.phase }, { on := 4, ground := Ground.phase }, { on := 5, ground := Ground.phase }, { on := 6, ground := Ground.phase }, { on := 7, ground := Ground.phase }, { on := 8, ground := Ground.phase }, { on := 9, ground := Ground.phase }, { on := 10, ground := Ground.phase }, { on := 11, ground := Ground.phase }], guard := none }) rfl (fun K hK => ?_) AllReadyH.nil
          rw [if_pos (by rfl)]
          refine wp_store_box 24 (.tmp 5) (.tmp 37) rfl (w.heap.size + 1) [.int .u64 q, .bool false, .string ⟨tx.toArray⟩] rfl rfl B2.out rfl info_rsheet (sh_one _ _ _) ?_
          intro w5 hb5 hk5
          have B5 := Lib.hid hb5
          have R5 := Lib.hid (R2.out.kp hk5 (fun e => by omega))
          have K5 := Lib.hid (K2.out.trans_new hk5 (fun b e => .inl (by omega)))
          clear hb5 hk5
          refine hK.out _ _ (trivial) (fun hHeld1 => ?_)
          clear hK K
          try simp only [Act.put, List.setIfInBounds_toArray, List.set_cons_zero, List.set_cons_succ]
          refine wpAnyH_done (by kernel_rfl) ?_ _
          go_wp2_with (first | (refine wpList_load_mid rfl 24 (.tmp 5) rfl (w.heap.size + 1) 0 rfl [.int .u64 q, .bool false, .string ⟨tx.toArray⟩] _ (Box.range' (L := [.int .u64 q, .bool false, .string ⟨tx.toArray⟩]) B5.out) Tryd.underlying24 rfl info_rsheet ?_) | fail)
          refine (rput_any q false tx w5 hq64 (by rw [HTL.out (by omega)]; omega)).mono ?_
          rintro e w6 ⟨rfl, hk⟩
          have B6 := Lib.hid (B5.out.kp hk (fun e => e))
          have R6 := Lib.hid (R5.out.kp hk (fun e => e))
          have K6 := Lib.hid (K5.out.trans hk)
          clear hk
          have hcmp : ((⟨(secL q false tx).toArray⟩ : ByteArray).toList == s.toList) = decide (secL q false tx = l) := by
            rw [← HS.out, str_eq, Bool.eq_iff_iff]; simp
          obtain ⟨y, hy⟩ : ∃ y : ByteArray, ⟨(secL q false tx).toArray⟩ = y := ⟨_, rfl⟩
          rw [hy] at hcmp ⊢
          have HY := Lib.hid hy
          clear hy
          by_cases heq : secL q false tx = l
          · rw [decide_eq_true heq] at hcmp
            have HV := Lib.hid (takeV_some (l := l) (s := ⟨q, false, tx⟩) (by unfold takeS; rw [HTQ.out, HKL.out, HKB.out, HTX.out, HN.out, if_pos ⟨HL.out, by omega, heq⟩]))
            clear heq
            go_wp2_with (first | (refine wpList_load_mid rfl 24 (.tmp 5) rfl (w.heap.size + 1) 0 rfl [.int .u64 q, .bool false, .string ⟨tx.toArray⟩] _ (Box.range' (L := [.int .u64 q, .bool false, .string ⟨tx.toArray⟩]) B6.out) Tryd.underlying24 rfl info_rsheet ?_) | (refine wpList_store_box rfl 24 (.tmp 2) (.tmp 43) rfl w.heap.size [.int .u64 q, .bool false, .string ⟨tx.toArray⟩] rfl rfl R6.out rfl info_rsheet (sh_one _ _ _) ?_; intro W hb hk) | fail)
            have KF : Kp (fun _ => False) w W := K6.out.trans_new hk (fun b e => .inl (by omega))
            rw [HV.out]
            refine bodyPost_ret (v := .tuple #[sv q false ⟨tx.toArray⟩, .int .i64 0]) ?_ rfl ⟨rfl, KF⟩
            exact results_two rtake_results _ _ w.heap.size 24 _ (0, 0) _ rfl hb Tryd.underlying24 rfl info_rsheet
          · rw [decide_eq_false heq] at hcmp
            have HV := Lib.hid (takeV_none (l := l) (by unfold takeS; rw [HTQ.out, HKL.out, HKB.out, HTX.out, HN.out, if_neg (fun h => heq h.2.2)]))
            clear heq
            go_wp2_with (first | (refine wpList_store_box rfl 24 (.tmp 2) (.tmp 42) rfl w.heap.size [.int .u64 0, .bool false, .string ⟨#[]⟩] rfl rfl R6.out rfl info_rsheet (sh_one _ _ _) ?_; intro W hb hk) | fail)
            have KF : Kp (fun _ => False) w W := K6.out.trans_new hk (fun b e => .inl (by omega))
            rw [HV.out]
            refine bodyPost_ret (v := .tuple #[sv 0 false ⟨#[]⟩, .int .i64 3]) ?_ rfl ⟨rfl, KF⟩
            exact results_two rtake_results _ _ w.heap.size 24 _ (0, 0) _ rfl hb Tryd.underlying24 rfl info_rsheet
          
      · simp only [Bool.not_true, Bool.not_false] at hg2
        go_upto_region 6 with fail
        obtain ⟨m, hme⟩ : ∃ m : Nat, m = 11 + n := ⟨_, rfl⟩
        rw [← hme] at hxt
        have hm : IntKind.i64.wrap ((11 : Int) + n) = (m : Int) := by rw [IntWalk.i64_in _ (by omega)]; omega
        have hm1 : m ≤ 512 := by omega
        have hm2 : 11 ≤ m := by omega
        have hm3 : ((m : Int)) ≤ 512 := by omega
        have hm4 : (11 : Int) ≤ m := by omega
        clear hme
        have R1 := Lib.hid (B0.out.drew)
        have K1 := Lib.hid (K0.out.drew)
        clear hg1 hg2
        refine wp_region_held_drew (S := fun _ => True) (by kernel_rfl) (trivial) (fun hHeld => ?_)
        refine wpAnyH_take (i := 0) (oi := { dst := some 27, op := Op.move (Operand.tmp 0), type := 9, pos := "ref.go:46", after := #[], guard := none }) (v := ?_) rfl (by kernel_rfl) (by kernel_rfl) (by kernel_rfl) (fun _ _ _ h => h) (Or.inl ⟨by rfl, ?_⟩) (by assumption) ?_
        rotate_left
        · intro v hSw
          try dsimp only at hSw
          go_simp
          with_reducible rfl
        try simp only [Act.put, List.setIfInBounds_toArray, List.set_cons_zero, List.set_cons_succ]
        refine wpAnyH_take (i := 1) (oi := { dst := some 28, op := Op.slice 9 (Operand.tmp 27) none (some (Operand.const (Value.int IntKind.i64 8))) none, type := 9, pos := "ref.go:46", after := #[{ on := 0, ground := Ground.data }], guard := none }) (v := ?_) rfl (by kernel_rfl) (by kernel_rfl) (by kernel_rfl) (fun _ _ _ h => h) (Or.inl ⟨by rfl, ?_⟩) (by assumption) ?_
        rotate_left
        · intro v hSw
          try dsimp only at hSw
          go_simp
          with_reducible rfl
        try simp only [Act.put, List.setIfInBounds_toArray, List.set_cons_zero, List.set_cons_succ]
        refine wpAnyH_take (i := 3) (oi := { dst := some 30, op := Op.move (Operand.tmp 0), type := 9, pos := "ref.go:46", after := #[], guard := none }) (v := ?_) rfl (by kernel_rfl) (by kernel_rfl) (by kernel_rfl) (fun _ _ _ h => h) (Or.inl ⟨by rfl, ?_⟩) (by assumption) ?_
        rotate_left
        · intro v hSw
          try dsimp only at hSw
          go_simp
          with_reducible rfl
        try simp only [Act.put, List.setIfInBounds_toArray, List.set_cons_zero, List.set_cons_succ]
        refine wpAnyH_take (i := 4) (oi := { dst := some 31, op := Op.index 9 (Operand.tmp 30) (Operand.const (Value.int IntKind.i64 8)), type := 5, pos := "ref.go:46", after := #[{ on := 3, ground := Ground.data }], guard := none }) (v := ?_) rfl (by kernel_rfl) (by kernel_rfl) (by kernel_rfl) (fun _ _ _ h => h) (Or.inl ⟨by rfl, ?_⟩) (by assumption) ?_
        rotate_left
        · intro v hSw
          try dsimp only at hSw
          go_simp
          with_reducible rfl
        try simp only [Act.put, List.setIfInBounds_toArray, List.set_cons_zero, List.set_cons_succ]
        refine wpAnyH_take (i := 5) (oi := { dst := some 32, op := Op.binOp BinOp.eql 5 (Operand.tmp 31) (Operand.const (Value.int IntKind.u8 2)) 5, type := 4, pos := "ref.go:46", after := #[{ on := 4, ground := Ground.data }], guard := none }) (v := ?_) rfl (by kernel_rfl) (by kernel_rfl) (by kernel_rfl) (fun _ _ _ h => h) (Or.inl ⟨by rfl, ?_⟩) (by assumption) ?_
        rotate_left
        · intro v hSw
          try dsimp only at hSw
          go_simp
          with_reducible rfl
        try simp only [Act.put, List.setIfInBounds_toArray, List.set_cons_zero, List.set_cons_succ]
        refine wpAnyH_take (i := 6) (oi := { dst := some 33, op := Op.move (Operand.tmp 0), type := 9, pos := "ref.go:46", after := #[], guard := none }) (v := ?_) rfl (by kernel_rfl) (by kernel_rfl) (by kernel_rfl) (fun _ _ _ h => h) (Or.inl ⟨by rfl, ?_⟩) (by assumption) ?_
        rotate_left
        · intro v hSw
          try dsimp only at hSw
          go_simp
          with_reducible rfl
        try simp only [Act.put, List.setIfInBounds_toArray, List.set_cons_zero, List.set_cons_succ]
        refine wpAnyH_take (i := 7) (oi := { dst := some 34, op := Op.move (Operand.tmp 4), type := 3, pos := "ref.go:46", after := #[], guard := none }) (v := ?_) rfl (by kernel_rfl) (by kernel_rfl) (by kernel_rfl) (fun _ _ _ h => h) (Or.inl ⟨by rfl, ?_⟩) (by assumption) ?_
        rotate_left
        · intro v hSw
          try dsimp only at hSw
          go_simp
          with_reducible rfl
        try simp only [Act.put, List.setIfInBounds_toArray, List.set_cons_zero, List.set_cons_succ]
        refine wpAnyH_take (i := 8) (oi := { dst := some 35, op := Op.binOp BinOp.add 3 (Operand.const (Value.int IntKind.i64 11)) (Operand.tmp 34) 3, type := 3, pos := "ref.go:46", after := #[{ on := 7, ground := Ground.data }], guard := none }) (v := ?_) rfl (by kernel_rfl) (by kernel_rfl) (by kernel_rfl) (fun _ _ _ h => h) (Or.inl ⟨by rfl, ?_⟩) (by assumption) ?_
        rotate_left
        · intro v hSw
          try dsimp only at hSw
          go_simp
          with_reducible rfl
        try simp only [Act.put, List.setIfInBounds_toArray, List.set_cons_zero, List.set_cons_succ]
        refine wpAnyH_take (i := 9) (oi := { dst := some 36, op := Op.slice 9 (Operand.tmp 33) (some (Operand.const (Value.int IntKind.i64 11))) (some (Operand.tmp 35)) none, type := 9, pos := "ref.go:46", after := #[{ on := 6, ground := Ground.data }, { on := 8, ground := Ground.data }], guard := none }) (v := ?_) rfl (by kernel_rfl) (by kernel_rfl) (by kernel_rfl) (fun _ _ _ h => h) (Or.inl ⟨by rfl, ?_⟩) (by assumption) ?_
        rotate_left
        · intro v hSw
          try dsimp only at hSw
          go_simp
          with_reducible rfl
        try simp only [Act.put, List.setIfInBounds_toArray, List.set_cons_zero, List.set_cons_succ]
        refine wpAnyH_ready (rs := [2, 11]) (by kernel_rfl) (by simp) ?_
        refine AllReadyH.cons (o := { dst := some 29, op := Op.call { callee := Callee.value (Operand.func 30), args := #[Operand.tmp 28], argTypes := #[9] }, type := 22, pos := "ref.go:46", after := #[{ on := 1, ground := Ground.data }], guard := none }) rfl (fun K hK => ?_) (AllReadyH.cons (o := { dst := some 5, op := Op.alloc 24, type := 0, pos := "ref.go:46", after := #[], guard := none }) rfl (fun K hK => ?_) AllReadyH.nil)
        · go_simp
          refine (value_any p8 w0.drew HP8.out).mono ?_
          rintro e w3 ⟨rfl, rfl⟩
          rw [HQ.out]
          go_wp2_with fail
          refine hK.out _ _ (trivial) (fun hHeld7 => ?_)
          clear hK K
          try simp only [Act.put, List.setIfInBounds_toArray, List.set_cons_zero, List.set_cons_succ]
          refine wpAnyH_take (i := 10) (oi := { dst := some 37, op := Op.build 24 #[(0, Operand.tmp 29), (1, Operand.tmp 32), (2, Operand.tmp 36)], type := 24, pos := "ref.go:46", after := #[{ on := 2, ground := Ground.data }, { on := 5, ground := Ground.data }, { on := 9, ground := Ground.data }], guard := none }) (v := ?_) rfl (by kernel_rfl) (by kernel_rfl) (by kernel_rfl) (fun _ _ _ h => h) (Or.inl ⟨by rfl, ?_⟩) (by assumption) ?_
          rotate_left
          · intro v hSw
            try dsimp only at hSw
            go_simp
            with_reducible rfl
          try simp only [Act.put, List.setIfInBounds_toArray, List.set_cons_zero, List.set_cons_succ]
          refine wpAnyH_ready (rs := [11]) (by kernel_rfl) (by simp) ?_
          refine AllReadyH.cons (o := { dst := some 5, op := Op.alloc 24, type := 0, pos := "ref.go:46", after := #[], guard := none }) rfl (fun K hK => ?_) AllReadyH.nil
          go_simp
          have B2 := Lib.hid (show Box (w0.alloc (.cells #[.int .u64 0, .bool false, .string ⟨#[]⟩] 24)).drew (w.heap.size + 1) 24 #[.int .u64 0, .bool false, .string ⟨#[]⟩] by rw [← hz]; exact Box.new w0 24 #[.int .u64 0, .bool false, .string ⟨#[]⟩])
          have R2 := Lib.hid (show Box (w0.alloc (.cells #[.int .u64 0, .bool false, .string ⟨#[]⟩] 24)).drew w.heap.size 24 #[.int .u64 0, .bool false, .string ⟨#[]⟩] from B0.out.alloc _)
          have K2 := Lib.hid (show Kp (fun _ => False) w (w0.alloc (.cells #[.int .u64 0, .bool false, .string ⟨#[]⟩] 24)).drew from (K0.out.alloc _).drew)
          generalize (w0.alloc (.cells #[.int .u64 0, .bool false, .string ⟨#[]⟩] 24)).drew = w4 at *
          refine hK.out _ _ (trivial) (fun hHeld8 => ?_)
          clear hK K
          try simp only [Act.put, List.setIfInBounds_toArray, List.set_cons_zero, List.set_cons_succ]
          refine wpAnyH_ready (rs := [12]) (by kernel_rfl) (by simp) ?_
          refine AllReadyH.cons (o := { dst := none, op := Op.store 24 (Operand.tmp 5) (Operand.tmp 37), type := 0, pos := "ref.go:46", after := #[{ on := 11, ground := Ground.data }, { on := 10, ground := Ground.data }, { on := 2, ground := Ground.chain }, { on := 0, ground := Ground.phase }, { on := 1, ground := Ground.phase }, { on := 2, ground := Ground.phase }, { on := 3, ground := Ground.phase }, { on := 4, ground := Ground.phase }, { on := 5, ground := Ground.phase }, { on := 6, ground := Ground.phase }, { on := 7, ground := Ground.phase }, { on := 8, ground := Ground.phase }, { on := 9, ground := Ground.phase }, { on := 10, ground := Ground.phase }, { on := 11, ground := Ground.phase }], guard := none }) rfl (fun K hK => ?_) AllReadyH.nil
          rw [if_pos (by rfl)]
          refine wp_store_box 24 (.tmp 5) (.tmp 37) rfl (w.heap.size + 1) [.int .u64 q, .bool true, .string ⟨tx.toArray⟩] rfl rfl B2.out rfl info_rsheet (sh_one _ _ _) ?_
          intro w5 hb5 hk5
          have B5 := Lib.hid hb5
          have R5 := Lib.hid (R2.out.kp hk5 (fun e => by omega))
          have K5 := Lib.hid (K2.out.trans_new hk5 (fun b e => .inl (by omega)))
          clear hb5 hk5
          refine hK.out _ _ (trivial) (fun hHeld6 => ?_)
          clear hK K
          try simp only [Act.put, List.setIfInBounds_toArray, List.set_cons_zero, List.set_cons_succ]
          refine wpAnyH_done (by kernel_rfl) ?_ _
          go_wp2_with (first | (refine wpList_load_mid rfl 24 (.tmp 5) rfl (w.heap.size + 1) 0 rfl [.int .u64 q, .bool true, .string ⟨tx.toArray⟩] _ (Box.range' (L := [.int .u64 q, .bool true, .string ⟨tx.toArray⟩]) B5.out) Tryd.underlying24 rfl info_rsheet ?_) | fail)
          refine (rput_any q true tx w5 hq64 (by rw [HTL.out (by omega)]; omega)).mono ?_
          rintro e w6 ⟨rfl, hk⟩
          have B6 := Lib.hid (B5.out.kp hk (fun e => e))
          have R6 := Lib.hid (R5.out.kp hk (fun e => e))
          have K6 := Lib.hid (K5.out.trans hk)
          clear hk
          have hcmp : ((⟨(secL q true tx).toArray⟩ : ByteArray).toList == s.toList) = decide (secL q true tx = l) := by
            rw [← HS.out, str_eq, Bool.eq_iff_iff]; simp
          obtain ⟨y, hy⟩ : ∃ y : ByteArray, ⟨(secL q true tx).toArray⟩ = y := ⟨_, rfl⟩
          rw [hy] at hcmp ⊢
          have HY := Lib.hid hy
          clear hy
          by_cases heq : secL q true tx = l
          · rw [decide_eq_true heq] at hcmp
            have HV := Lib.hid (takeV_some (l := l) (s := ⟨q, true, tx⟩) (by unfold takeS; rw [HTQ.out, HKL.out, HKB.out, HTX.out, HN.out, if_pos ⟨HL.out, by omega, heq⟩]))
            clear heq
            go_wp2_with (first | (refine wpList_load_mid rfl 24 (.tmp 5) rfl (w.heap.size + 1) 0 rfl [.int .u64 q, .bool true, .string ⟨tx.toArray⟩] _ (Box.range' (L := [.int .u64 q, .bool true, .string ⟨tx.toArray⟩]) B6.out) Tryd.underlying24 rfl info_rsheet ?_) | (refine wpList_store_box rfl 24 (.tmp 2) (.tmp 43) rfl w.heap.size [.int .u64 q, .bool true, .string ⟨tx.toArray⟩] rfl rfl R6.out rfl info_rsheet (sh_one _ _ _) ?_; intro W hb hk) | fail)
            have KF : Kp (fun _ => False) w W := K6.out.trans_new hk (fun b e => .inl (by omega))
            rw [HV.out]
            refine bodyPost_ret (v := .tuple #[sv q true ⟨tx.toArray⟩, .int .i64 0]) ?_ rfl ⟨rfl, KF⟩
            exact results_two rtake_results _ _ w.heap.size 24 _ (0, 0) _ rfl hb Tryd.underlying24 rfl info_rsheet
          · rw [decide_eq_false heq] at hcmp
            have HV := Lib.hid (takeV_none (l := l) (by unfold takeS; rw [HTQ.out, HKL.out, HKB.out, HTX.out, HN.out, if_neg (fun h => heq h.2.2)]))
            clear heq
            go_wp2_with (first | (refine wpList_store_box rfl 24 (.tmp 2) (.tmp 42) rfl w.heap.size [.int .u64 0, .bool false, .string ⟨#[]⟩] rfl rfl R6.out rfl info_rsheet (sh_one _ _ _) ?_; intro W hb hk) | fail)
            have KF : Kp (fun _ => False) w W := K6.out.trans_new hk (fun b e => .inl (by omega))
            rw [HV.out]
            refine bodyPost_ret (v := .tuple #[sv 0 false ⟨#[]⟩, .int .i64 3]) ?_ rfl ⟨rfl, KF⟩
            exact results_two rtake_results _ _ w.heap.size 24 _ (0, 0) _ rfl hb Tryd.underlying24 rfl info_rsheet
          
        · go_simp
          have B2 := Lib.hid (show Box (w0.alloc (.cells #[.int .u64 0, .bool false, .string ⟨#[]⟩] 24)).drew (w.heap.size + 1) 24 #[.int .u64 0, .bool false, .string ⟨#[]⟩] by rw [← hz]; exact Box.new w0 24 #[.int .u64 0, .bool false, .string ⟨#[]⟩])
          have R2 := Lib.hid (show Box (w0.alloc (.cells #[.int .u64 0, .bool false, .string ⟨#[]⟩] 24)).drew w.heap.size 24 #[.int .u64 0, .bool false, .string ⟨#[]⟩] from B0.out.alloc _)
          have K2 := Lib.hid (show Kp (fun _ => False) w (w0.alloc (.cells #[.int .u64 0, .bool false, .string ⟨#[]⟩] 24)).drew from (K0.out.alloc _).drew)
          generalize (w0.alloc (.cells #[.int .u64 0, .bool false, .string ⟨#[]⟩] 24)).drew = w4 at *
          refine hK.out _ _ (trivial) (fun hHeld9 => ?_)
          clear hK K
          try simp only [Act.put, List.setIfInBounds_toArray, List.set_cons_zero, List.set_cons_succ]
          refine wpAnyH_ready (rs := [2]) (by kernel_rfl) (by simp) ?_
          refine AllReadyH.cons (o := { dst := some 29, op := Op.call { callee := Callee.value (Operand.func 30), args := #[Operand.tmp 28], argTypes := #[9] }, type := 22, pos := "ref.go:46", after := #[{ on := 1, ground := Ground.data }], guard := none }) rfl (fun K hK => ?_) AllReadyH.nil
          go_simp
          refine (value_any p8 w4 HP8.out).mono ?_
          rintro e w3 ⟨rfl, rfl⟩
          rw [HQ.out]
          go_wp2_with fail
          refine hK.out _ _ (trivial) (fun hHeld10 => ?_)
          clear hK K
          try simp only [Act.put, List.setIfInBounds_toArray, List.set_cons_zero, List.set_cons_succ]
          refine wpAnyH_take (i := 10) (oi := { dst := some 37, op := Op.build 24 #[(0, Operand.tmp 29), (1, Operand.tmp 32), (2, Operand.tmp 36)], type := 24, pos := "ref.go:46", after := #[{ on := 2, ground := Ground.data }, { on := 5, ground := Ground.data }, { on := 9, ground := Ground.data }], guard := none }) (v := ?_) rfl (by kernel_rfl) (by kernel_rfl) (by kernel_rfl) (fun _ _ _ h => h) (Or.inl ⟨by rfl, ?_⟩) (by assumption) ?_
          rotate_left
          · intro v hSw
            try dsimp only at hSw
            go_simp
            with_reducible rfl
          try simp only [Act.put, List.setIfInBounds_toArray, List.set_cons_zero, List.set_cons_succ]
          refine wpAnyH_ready (rs := [12]) (by kernel_rfl) (by simp) ?_
          refine AllReadyH.cons (o := { dst := none, op := Op.store 24 (Operand.tmp 5) (Operand.tmp 37), type := 0, pos := "ref.go:46", after := #[{ on := 11, ground := Ground.data }, { on := 10, ground := Ground.data }, { on := 2, ground := Ground.chain }, { on := 0, ground := Ground.phase }, { on := 1, ground := Ground.phase }, { on := 2, ground := Ground.phase }, { on := 3, ground := Ground.phase }, { on := 4, ground := Ground.phase }, { on := 5, ground := Ground.phase }, { on := 6, ground := Ground.phase }, { on := 7, ground := Ground.phase }, { on := 8, ground := Ground.phase }, { on := 9, ground := Ground.phase }, { on := 10, ground := Ground.phase }, { on := 11, ground := Ground.phase }], guard := none }) rfl (fun K hK => ?_) AllReadyH.nil
          rw [if_pos (by rfl)]
          refine wp_store_box 24 (.tmp 5) (.tmp 37) rfl (w.heap.size + 1) [.int .u64 q, .bool true, .string ⟨tx.toArray⟩] rfl rfl B2.out rfl info_rsheet (sh_one _ _ _) ?_
          intro w5 hb5 hk5
          have B5 := Lib.hid hb5
          have R5 := Lib.hid (R2.out.kp hk5 (fun e => by omega))
          have K5 := Lib.hid (K2.out.trans_new hk5 (fun b e => .inl (by omega)))
          clear hb5 hk5
          refine hK.out _ _ (trivial) (fun hHeld6 => ?_)
          clear hK K
          try simp only [Act.put, List.setIfInBounds_toArray, List.set_cons_zero, List.set_cons_succ]
          refine wpAnyH_done (by kernel_rfl) ?_ _
          go_wp2_with (first | (refine wpList_load_mid rfl 24 (.tmp 5) rfl (w.heap.size + 1) 0 rfl [.int .u64 q, .bool true, .string ⟨tx.toArray⟩] _ (Box.range' (L := [.int .u64 q, .bool true, .string ⟨tx.toArray⟩]) B5.out) Tryd.underlying24 rfl info_rsheet ?_) | fail)
          refine (rput_any q true tx w5 hq64 (by rw [HTL.out (by omega)]; omega)).mono ?_
          rintro e w6 ⟨rfl, hk⟩
          have B6 := Lib.hid (B5.out.kp hk (fun e => e))
          have R6 := Lib.hid (R5.out.kp hk (fun e => e))
          have K6 := Lib.hid (K5.out.trans hk)
          clear hk
          have hcmp : ((⟨(secL q true tx).toArray⟩ : ByteArray).toList == s.toList) = decide (secL q true tx = l) := by
            rw [← HS.out, str_eq, Bool.eq_iff_iff]; simp
          obtain ⟨y, hy⟩ : ∃ y : ByteArray, ⟨(secL q true tx).toArray⟩ = y := ⟨_, rfl⟩
          rw [hy] at hcmp ⊢
          have HY := Lib.hid hy
          clear hy
          by_cases heq : secL q true tx = l
          · rw [decide_eq_true heq] at hcmp
            have HV := Lib.hid (takeV_some (l := l) (s := ⟨q, true, tx⟩) (by unfold takeS; rw [HTQ.out, HKL.out, HKB.out, HTX.out, HN.out, if_pos ⟨HL.out, by omega, heq⟩]))
            clear heq
            go_wp2_with (first | (refine wpList_load_mid rfl 24 (.tmp 5) rfl (w.heap.size + 1) 0 rfl [.int .u64 q, .bool true, .string ⟨tx.toArray⟩] _ (Box.range' (L := [.int .u64 q, .bool true, .string ⟨tx.toArray⟩]) B6.out) Tryd.underlying24 rfl info_rsheet ?_) | (refine wpList_store_box rfl 24 (.tmp 2) (.tmp 43) rfl w.heap.size [.int .u64 q, .bool true, .string ⟨tx.toArray⟩] rfl rfl R6.out rfl info_rsheet (sh_one _ _ _) ?_; intro W hb hk) | fail)
            have KF : Kp (fun _ => False) w W := K6.out.trans_new hk (fun b e => .inl (by omega))
            rw [HV.out]
            refine bodyPost_ret (v := .tuple #[sv q true ⟨tx.toArray⟩, .int .i64 0]) ?_ rfl ⟨rfl, KF⟩
            exact results_two rtake_results _ _ w.heap.size 24 _ (0, 0) _ rfl hb Tryd.underlying24 rfl info_rsheet
          · rw [decide_eq_false heq] at hcmp
            have HV := Lib.hid (takeV_none (l := l) (by unfold takeS; rw [HTQ.out, HKL.out, HKB.out, HTX.out, HN.out, if_neg (fun h => heq h.2.2)]))
            clear heq
            go_wp2_with (first | (refine wpList_store_box rfl 24 (.tmp 2) (.tmp 42) rfl w.heap.size [.int .u64 0, .bool false, .string ⟨#[]⟩] rfl rfl R6.out rfl info_rsheet (sh_one _ _ _) ?_; intro W hb hk) | fail)
            have KF : Kp (fun _ => False) w W := K6.out.trans_new hk (fun b e => .inl (by omega))
            rw [HV.out]
            refine bodyPost_ret (v := .tuple #[sv 0 false ⟨#[]⟩, .int .i64 3]) ?_ rfl ⟨rfl, KF⟩
            exact results_two rtake_results _ _ w.heap.size 24 _ (0, 0) _ rfl hb Tryd.underlying24 rfl info_rsheet
          
    · have hg1 : (((k : Nat) : Int) != 1) = true := by simp; omega
      have hg2 : (((k : Nat) : Int) != 2) = true := by simp; omega
      have HV := Lib.hid (takeV_none (HKind.out (fun e => hk12 (.inl e)) (fun e => hk12 (.inr e))))
      clear hk12
      go_wp2_with (first | (refine wpList_store_box rfl 24 (.tmp 2) (.tmp 26) rfl w.heap.size [.int .u64 0, .bool false, .string ⟨#[]⟩] rfl rfl B0.out rfl info_rsheet (sh_one _ _ _) ?_; intro W hb hk) | fail)
      have KF : Kp (fun _ => False) w W := K0.out.trans_new hk (fun b e => .inl (by omega))
      rw [HV.out]
      refine bodyPost_ret (v := .tuple #[sv 0 false ⟨#[]⟩, .int .i64 3]) ?_ rfl ⟨rfl, KF⟩
      exact results_two rtake_results _ _ w.heap.size 24 _ (0, 0) _ rfl hb Tryd.underlying24 rfl info_rsheet


theorem rtake_any (l : List UInt8) (w : World) :
    Calls Tryd.prog 11 #[.string ⟨l.toArray⟩] w fun e w' => e = .returned (takeV l) ∧ Kp (fun _ => False) w w' := by
  by_cases hl : l.length = 512
  · exact rtake_whole l w hl
  · rw [takeV_none (by unfold takeS; rw [if_neg (fun h => hl h.1)])]
    exact rtake_odd ⟨l.toArray⟩ w (by show l.toArray.size ≠ 512; simpa using hl)
end Go.Proofs.YtdacjhgjaneeeaaDoor
