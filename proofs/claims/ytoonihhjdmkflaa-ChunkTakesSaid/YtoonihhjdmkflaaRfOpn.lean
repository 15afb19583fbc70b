/- The document's own opener, by value: a text, a number, a name, whatever its state. Condition: at most 2^47 bytes. -/
import Derived.Test.YtoonihhjdmkflaaOpi
import Derived.Test.YtoonihhjdmkflaaGen
namespace Go.Proofs.Ytoonihhjdmkflaa
open Go.RowKit

/-- An opener's cells. -/
def ocs (s : List UInt8 × Bool) : Array Value := #[.string ⟨s.1.toArray⟩, .bool s.2]
theorem zOp : ZeroN Try.prog 55 2 := by unfold ZeroN; kernel_rfl
theorem zero_op : (#[Value.string ⟨#[]⟩, Value.bool false] : Array Value) = ocs ([], false) := rfl
theorem ocs_one (s : List UInt8 × Bool) : ∀ u ∈ (ocs s).toList, u.oneCell' = true := fun u hu => by
  simp only [ocs, List.mem_cons, List.not_mem_nil, or_false] at hu
  rcases hu with rfl | rfl <;> rfl
theorem nresults_tc {P : Program} {fn : Func} {p u : Tmp} {ty : TypeId} (h : fn.results = #[.tmp u, .cell p ty]) (tmps : Array Value) (w : World) (g : Nat) (t : TypeId) (cs : Array Value) (fr : Nat × Nat) (d : TypeDesc)
    (hp : tmps.getD p undef = .pointer (some ⟨g, 0, none⟩)) (hg : w.heap[g]? = some (.cells cs t fr))
    (hu : P.underlying ty = some d) (hd : (match d with | .struct _ | .array _ _ => true | _ => false) = true) (hi : (P.info? ty).map (·.size) = some cs.size) :
    (results fn tmps).run P w = .ok (.tuple #[tmps.getD u undef, .agg cs]) w := by
  have hp' : tmps[p]?.getD undef = .pointer (some ⟨g, 0, none⟩) := by simpa using hp
  simp only [results, h]
  simp [hp', asAddr, run_loadVar_row w g t ty cs fr d hg hu hd hi, Result.andThen]
theorem rext_upto (r : List UInt8) (k : Nat) : (⟨r.toArray⟩ : ByteArray).extract 0 k = ⟨(r.take k).toArray⟩ := by
  apply ByteArray.ext
  simp
theorem rext_from (r : List UInt8) (k n : Nat) (h : r.length = n) : (⟨r.toArray⟩ : ByteArray).extract k n = ⟨(r.drop k).toArray⟩ := by
  subst h
  apply ByteArray.ext
  simp [List.extract_eq_take_drop]
  exact List.take_of_length_le (by simp)
theorem rext_mid (l : List UInt8) (a b : Nat) : (⟨l.toArray⟩ : ByteArray).extract a b = ⟨((l.drop a).take (b - a)).toArray⟩ := by
  apply ByteArray.ext
  simp
theorem rsize (l : List UInt8) : (⟨l.toArray⟩ : ByteArray).size = l.length := by
  show l.toArray.size = _
  simp

set_option maxHeartbeats 1000000 in
theorem rvalue_any (s : ByteArray) (w : World) (hs : s.size ≤ 8) :
    Calls Try.prog 36 #[.string s] w fun e w' => e = .returned (.int .u64 (numN (byt s) : Nat)) ∧ w = w' := by
  go_enter Try.func36, Try.ntmps36
  go_wp2
  go_loop [3, 4] (fun n i => ∃ k : Nat, k ≤ s.size ∧ i = .int .i64 k ∧ n = .int .u64 (numN ((byt s).take k) : Nat)) (fun _ i => s.size - (Go.RowKit.intOf i).toNat)
  case atStart => exact ⟨0, Nat.zero_le _, rfl, rfl⟩
  case round =>
    obtain ⟨k, hk, rfl, rfl⟩ := hrel
    by_cases hlt : k < s.size
    · have hb : k < (byt s).length := by rw [byt_len]; exact hlt
      have hsn := numN_take (byt s) k hb
      have he : (byt s)[k] = s[k] := rfl
      have h1 := numN_lt ((byt s).take k)
      have hpw : 256 ^ ((byt s).take k).length ≤ 256 ^ 7 := Nat.pow_le_pow_right (by omega) (by rw [List.length_take]; omega)
      have h7 : 256 ^ 7 = 72057594037927936 := by decide
      obtain ⟨N, hN⟩ := (⟨_, rfl⟩ : ∃ N, N = numN ((byt s).take k))
      rw [← hN] at hsn h1 ⊢
      have hNb : N ≤ 72057594037927935 := by omega
      have hc := s[k].toNat_lt
      rw [he] at hsn
      have HSN := Lib.hid hsn
      clear hsn h1 hpw h7 hN he
      go_wp2
      go_round
      case rel => exact ⟨k + 1, by omega, by go_num, by rw [HSN.out]; go_num⟩
      case measure => simp [Go.RowKit.intOf]; omega
    · go_wp2
      go_ret
      refine ⟨?_, rfl⟩
      rw [List.take_of_length_le (by rw [byt_len]; omega)]
      rfl
/-- What Text answers. -/
def TxEnd (k : Nat) (s : List UInt8 × Bool) (w : World) (e : Ending) (w' : World) : Prop := e = .returned (.tuple #[.string ⟨(gv k s).1.toArray⟩, .agg (ocs (gv k s).2)]) ∧ Kp (fun _ => False) w w'
set_option maxRecDepth 100000 in
set_option maxHeartbeats 4000000 in
theorem rtext_any (k : Nat) (s : List UInt8 × Bool) (w : World) (_hl : s.1.length ≤ 140737488355328) :
    Calls Try.prog 19 #[.agg (ocs s), .int .i64 k] w (TxEnd k s w) := by
  have Hr : Hid (Try.f19.results = #[.tmp 4, .cell 5 55]) := Lib.hid (by kernel_rfl)
  obtain ⟨W, hW, b0, b1, k0⟩ : ∃ W, W = (w.alloc (.cells (ocs s) 55)).alloc (.cells (ocs ([], false)) 55) ∧ Box W w.heap.size 55 (ocs s) ∧ Box W (w.heap.size + 1) 55 (ocs ([], false)) ∧ Kp (fun _ => False) w W := ⟨_, rfl, (Box.new w _ _).alloc _, by simpa using Box.new (w.alloc (.cells (ocs s) 55)) 55 (ocs ([], false)), ((Kp.refl _ w).alloc _).alloc _⟩
  have HW := Lib.hid hW
  have K0 := Lib.hid k0
  have B0 := Lib.hid b0
  have B1 := Lib.hid b1
  have y0 : W.cell? ⟨w.heap.size, 0, none⟩ = some (.string ⟨s.1.toArray⟩) := b0.cell 0
  have y1 : W.cell? ⟨w.heap.size, 1, none⟩ = some (.bool s.2) := b0.cell 1
  clear hW b0 b1 k0
  rcases hb : s.2 with _ | _
  · have HNB := Lib.hid hb
    rw [hb] at y1
    by_cases hk : k ≤ s.1.length
    · have HG : Hid (gv k s = (s.1.take k, (s.1.drop k, false))) := Lib.hid (by unfold gv; rw [if_neg (by rw [hb]; simp), if_pos hk])
      have hsz := rsize s.1
      have hd : ¬ ((s.1.length : Int) < (k : Int)) := by omega
      have he1 := rext_upto s.1 k
      have he2 := rext_from s.1 k s.1.length rfl
      clear hb
      go_enter Try.func19, Try.ntmps19
      go_upto_region 1 with fail
      rw [zero_op]
      rw [← HW.out]
      go_upto_region 5 with fail
      clear y0 y1 hd
      refine wp_region_held_drew (S := fun v => Box v w.heap.size 55 (ocs s)) (by kernel_rfl) (B0.out.drew) (fun hHeld => ?_)
      have B1 := Lib.hid B1.out.drew
      refine tk 0 (h := ?_)
      refine tk 1 (hy := fun v hv => by (have y : v.cell? ⟨w.heap.size, 0, none⟩ = some (.string ⟨s.1.toArray⟩) := Box.cell hv 0; go_simp; with_reducible rfl)) (h := ?_)
      refine tk 2 (h := ?_)
      refine tk 3 (h := ?_)
      refine tk 4 (h := ?_)
      refine tk 5 (hy := fun v hv => by (have y : v.cell? ⟨w.heap.size, 0, none⟩ = some (.string ⟨s.1.toArray⟩) := Box.cell hv 0; go_simp; with_reducible rfl)) (h := ?_)
      refine tk 6 (h := ?_)
      refine tk 7 (h := ?_)
      refine tk 8 (h := ?_)
      refine tk 9 (h := ?_)
      refine rd 10 (h := fun K hK => ?_)
      rw [if_pos (by rfl)]
      refine nwp_store_box 55 (.tmp 5) (.tmp 29) rfl (w.heap.size + 1) ((ocs (s.1.drop k, false)).toList) rfl rfl B1.out rfl (by kernel_rfl) (ocs_one (s.1.drop k, false)) ?_
      intro w9 hb9 hk9
      have HB9 := Lib.hid hb9
      have HK9 := Lib.hid hk9
      clear hb9 hk9
      refine hK.out _ _ (B0.out.drew.kp HK9.out (by omega)) (fun hHeldZ => ?_)
      clear hK K
      try simp only [Act.put]
      refine wpAnyH_done (by kernel_rfl) ?_ _
      clear hsz he1 he2
      go_wp2_with fail
      refine bodyPost_ret (v := .tuple #[.string ⟨(s.1.take k).toArray⟩, .agg (ocs (s.1.drop k, false))]) ?_ rfl ?_
      · exact nresults_tc Hr.out _ _ (w.heap.size + 1) _ _ (0, 0) _ rfl HB9.out Try.underlying55 rfl (by kernel_rfl)
      · rw [TxEnd, HG.out]
        exact ⟨rfl, K0.out.drew.trans_new HK9.out (fun q e => .inl (by omega))⟩
    · have HG : Hid (gv k s = ([], (s.1, true))) := Lib.hid (by unfold gv; rw [if_neg (by rw [hb]; simp), if_neg hk])
      have hsz := rsize s.1
      have hd : ((s.1.length : Int) < (k : Int)) := by omega
      clear hb
      go_enter Try.func19, Try.ntmps19
      go_upto_region 1 with fail
      rw [zero_op]
      rw [← HW.out]
      go_upto_region 4 with fail
      clear y0 y1 hd hsz
      refine wp_region_held_drew (S := fun v => Box v w.heap.size 55 (ocs s)) (by kernel_rfl) (B0.out.drew) (fun hHeld => ?_)
      have B1 := Lib.hid B1.out.drew
      refine tk 0 (h := ?_)
      refine tk 1 (hy := fun v hv => by (have y : v.cell? ⟨w.heap.size, 0, none⟩ = some (.string ⟨s.1.toArray⟩) := Box.cell hv 0; go_simp; with_reducible rfl)) (h := ?_)
      refine tk 2 (h := ?_)
      refine tk 3 (h := ?_)
      refine rd 4 (h := fun K hK => ?_)
      rw [if_pos (by rfl)]
      refine nwp_store_box 55 (.tmp 5) (.tmp 20) rfl (w.heap.size + 1) ((ocs (s.1, true)).toList) rfl rfl B1.out rfl (by kernel_rfl) (ocs_one (s.1, true)) ?_
      intro w9 hb9 hk9
      have HB9 := Lib.hid hb9
      have HK9 := Lib.hid hk9
      clear hb9 hk9
      refine hK.out _ _ (B0.out.drew.kp HK9.out (by omega)) (fun hHeldZ => ?_)
      clear hK K
      try simp only [Act.put]
      refine wpAnyH_done (by kernel_rfl) ?_ _
      go_wp2_with fail
      refine bodyPost_ret (v := .tuple #[.string ⟨#[]⟩, .agg (ocs (s.1, true))]) ?_ rfl ?_
      · exact nresults_tc Hr.out _ _ (w.heap.size + 1) _ _ (0, 0) _ rfl HB9.out Try.underlying55 rfl (by kernel_rfl)
      · rw [TxEnd, HG.out]
        exact ⟨rfl, K0.out.drew.trans_new HK9.out (fun q e => .inl (by omega))⟩
  · have HG : Hid (gv k s = ([], s)) := Lib.hid (by unfold gv; rw [if_pos hb])
    have hy1 : s.2 = true := hb
    rw [hb] at y1
    have HB2 := Lib.hid hb
    clear hb hy1
    go_enter Try.func19, Try.ntmps19
    go_upto_region 1 with fail
    rw [zero_op]
    rw [← HW.out]
    go_upto_region 2 with fail
    clear y0 y1
    refine wp_region_held_drew (S := fun v => Box v w.heap.size 55 (ocs s)) (by kernel_rfl) (B0.out.drew) (fun hHeld => ?_)
    have B1 := Lib.hid B1.out.drew
    refine tk 0 (hy := fun v hv => nexec_load 55 (.tmp 2) rfl w.heap.size 0 rfl (ocs s).toList _ (Box.range hv) Try.underlying55 rfl (by kernel_rfl)) (h := ?_)
    refine tk 1 (h := ?_)
    refine rd 2 (h := fun K hK => ?_)
    rw [if_pos (by rfl)]
    refine nwp_store_box 55 (.tmp 5) (.tmp 8) rfl (w.heap.size + 1) ((ocs s).toList) rfl rfl B1.out rfl (by kernel_rfl) (ocs_one s) ?_
    intro w9 hb9 hk9
    have HB9 := Lib.hid hb9
    have HK9 := Lib.hid hk9
    clear hb9 hk9
    refine hK.out _ _ (B0.out.drew.kp HK9.out (by omega)) (fun hHeldZ => ?_)
    clear hK K
    try simp only [Act.put]
    refine wpAnyH_done (by kernel_rfl) ?_ _
    go_wp2_with fail
    refine bodyPost_ret (v := .tuple #[.string ⟨#[]⟩, .agg (ocs s)]) ?_ rfl ?_
    · exact nresults_tc Hr.out _ _ (w.heap.size + 1) _ _ (0, 0) _ rfl HB9.out Try.underlying55 rfl (by kernel_rfl)
    · rw [TxEnd, HG.out]
      exact ⟨rfl, K0.out.drew.trans_new HK9.out (fun q e => .inl (by omega))⟩
end Go.Proofs.Ytoonihhjdmkflaa
