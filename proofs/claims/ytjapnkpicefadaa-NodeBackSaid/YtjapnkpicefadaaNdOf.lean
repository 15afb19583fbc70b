/- A node copied (Of), and whether a node is greater than the statements look at. Condition of Of: at most 600 keys, values, children. -/
import Derived.Test.YtjapnkpicefadaaNdTk
namespace Go.Proofs.Ytjapnkpicefadaa
open Go.RowKit

theorem nrun_append_nil {P : Program} {w : World} (t ty e : TypeId) (i : TypeInfo) (ht : P.underlying t = some (.slice e)) (hi : P.info? e = some i) (cap : Nat) :
    (Builtin.append_ #[t, t] ty #[.slice none 0 0, .slice none 0 cap]).run P w = .ok (.slice none 0 0) w := by
  simp [Builtin.append_, run_underlying ht, sizeOf, typeInfo, hi, Builtin.lenOf, Builtin.firstCells]
/-- A row that is read, copied into a new one. -/
theorem wp_copy {P : Program} {w : World} {o : Oper} {a : Act} {K : Act → World → Prop} {Q : Exit → Act → World → Prop} (s x : Operand) (t : TypeId)
    (ho : o.op = .call { callee := .builtin .append, args := #[s, x], argTypes := #[t, t] })
    (e : TypeId) (i : TypeInfo) (z : Value) (bytes : Nat) (ht : P.underlying t = some (.slice e)) (hi : P.info? e = some i) (hz : i.zero = some z)
    (hsize : i.size = 1) (hby : i.bytes = bytes) (hzs : z.cells.size = 1)
    (A : Option Addr) (n c : Nat) (xs : List Value) (hs : a.eval s = .slice none 0 0) (hx : a.eval x = .slice A n c) (hn : xs.length = n) (hr : RdV w A xs) (h1 : ∀ u ∈ xs, u.oneCell' = true)
    (h63 : n ≤ maxLen) (hbytes : n * bytes ≤ 140737488355328)
    (h : ∀ v' w', w'.ownsRow 0 e 1 v' n xs → Kp (fun _ => False) w w' → K (a.put o.dst v') w') : o.wp P a w K Q := by
  rcases A with _ | ad
  · have hxs : xs = [] := by
      rcases hr with h0 | ⟨b, oo, e1, _⟩
      · exact h0
      · cases e1
    subst hxs
    subst hn
    have hrun := nrun_append_nil (P := P) (w := w) t o.type e i ht hi c
    unfold Oper.wp execOp
    simp only [ho, resolve, invoke, builtin, Sem.run_bind, Sem.run_pure, Result.andThen_ok, List.map_toArray, List.map_cons, List.map_nil, hs, hx, List.length_nil, hrun]
    exact h _ _ (World.ownsRow_nil _ _ _ _) (Kp.refl _ _)
  · refine wp_append_own w s x t ho 0 e i z 1 bytes ht hi hz hsize hby hzs (by omega) (.slice none 0 0) 0 [] hs (World.ownsRow_nil _ _ _ _) ad n c xs hx (by omega) (fun j u hj => ?_) h1 (by omega) (by simpa using hbytes) (Nat.zero_le _) (fun v' w' h2 h3 _ => ?_)
    · rcases hr with h0 | ⟨b, oo, e1, hc⟩
      · subst h0
        cases hj
      · cases e1
        have := hc j u hj
        unfold Addr.add
        split
        · next h0 => simpa [h0] using this
        · exact this
    · rw [Nat.zero_add, List.nil_append] at h2
      exact h v' w' h2 ((grown_kp h3).mono fun q _ e => by cases e)

theorem node_of_own {w : World} {n : Nd} {vk vv vc : Value} (hk : w.ownsRow 0 9 1 vk n.keys.length (sts n.keys)) (hv : w.ownsRow 0 9 1 vv n.vals.length (sts n.vals)) (hc : w.ownsRow 0 3 1 vc n.kids.length (its n.kids)) :
    ∃ p, (#[.bool n.leaf, vk, vv, vc] : Array Value) = ncs n p ∧ NdR w n p := by
  have cp : ∀ {t : TypeId} {A : Option Addr} {n c : Nat} {xs : List Value}, w.ownsRow 0 t 1 (.slice A n c) n xs → n ≤ c ∧ c ≤ maxLen := by
    intro t A n c xs h
    rcases h.2 with ⟨e, h0⟩ | ⟨g, cap, cur, e, _, _, h1, h2, _⟩
    · cases e
      exact ⟨by omega, by simp [maxLen]⟩
    · cases e
      exact ⟨h1, h2⟩
  obtain ⟨Ak, ck, rfl⟩ := own_shape hk
  obtain ⟨Av, cv, rfl⟩ := own_shape hv
  obtain ⟨Ac, cc, rfl⟩ := own_shape hc
  exact ⟨⟨Ak, Av, Ac, ck, cv, cc⟩, rfl, ⟨.of_own hk, .of_own hv, .of_own hc, cp hk, cp hv, cp hc⟩⟩

set_option maxRecDepth 100000 in
set_option maxHeartbeats 4000000 in
theorem ofn_any (n : Nd) (p : Pl) (w : World) (h : NdR w n p) (h1 : n.keys.length ≤ 600) (h2 : n.vals.length ≤ 600) (h3 : n.kids.length ≤ 600) :
    Calls Try.prog 14 #[.agg (ncs n p)] w fun e w' => ∃ q, e = .returned (.agg (ncs n q)) ∧ NdR w' n q ∧ Kp (fun _ => False) w w' := by
  have Hr : Hid (Try.f14.results = #[.cell 2 36]) := Lib.hid (by kernel_rfl)
  obtain ⟨iI, i1, i2, i3, i4⟩ := intInfo
  obtain ⟨iS, s1, s2, s3, s4⟩ := strInfo
  obtain ⟨W, hW, b0, b1, k0⟩ : ∃ W, W = (w.alloc (.cells (ncs n p) 27)).alloc (.cells #[.bool false, .slice none 0 0, .slice none 0 0, .slice none 0 0] 36) ∧ Box W w.heap.size 27 (ncs n p) ∧ Box W (w.heap.size + 1) 36 #[.bool false, .slice none 0 0, .slice none 0 0, .slice none 0 0] ∧ Kp (fun _ => False) w W := ⟨_, rfl, (Box.new w _ _).alloc _, by simpa using Box.new (w.alloc (.cells (ncs n p) 27)) 36 #[.bool false, .slice none 0 0, .slice none 0 0, .slice none 0 0], ((Kp.refl _ w).alloc _).alloc _⟩
  have HW := Lib.hid hW
  have B0 := Lib.hid b0
  have B1 := Lib.hid b1
  have K0 := Lib.hid k0
  have HR := Lib.hid (h.still k0)
  clear hW b0 b1 k0 h
  go_enter Try.func14, Try.ntmps14
  go_upto_region 1 with fail
  rw [← HW.out]
  have k1 : Kp (fun _ => False) W W.drew := (Kp.refl _ W).drew
  have B0 := Lib.hid B0.out.drew
  have B1 := Lib.hid B1.out.drew
  have K0 := Lib.hid K0.out.drew
  have HR := Lib.hid (HR.out.still k1)
  clear k1
  refine wp_region_held_drew (S := fun v => (v.cell? ⟨w.heap.size, 0, none⟩ = some (.bool n.leaf)) ∧ (v.cell? ⟨w.heap.size, 1, none⟩ = some (.slice p.k n.keys.length p.ck)) ∧ (v.cell? ⟨w.heap.size, 2, none⟩ = some (.slice p.v n.vals.length p.cv)) ∧ (v.cell? ⟨w.heap.size, 3, none⟩ = some (.slice p.c n.kids.length p.cc))) (by kernel_rfl) (⟨B0.out.cell 0, B0.out.cell 1, B0.out.cell 2, B0.out.cell 3⟩) (fun hHeld => ?_)
  refine tk 0 (h := ?_)
  refine tk 1 (h := ?_)
  refine tk 2 (h := ?_)
  refine tk 3 (h := ?_)
  refine tk 5 (h := ?_)
  refine tk 6 (h := ?_)
  refine tk 8 (h := ?_)
  refine tk 9 (h := ?_)
  refine rd 4 (h := fun K hK => ?_)
  refine wp_copy (.const (.slice none 0 0)) (.tmp 6) 24 rfl 9 iS (.string ⟨#[]⟩) 16 Try.underlying24 s1 s2 s3 s4 rfl p.k _ _ (sts n.keys) rfl rfl (sts_len _) HR.out.k (sts_one _) (by unfold maxLen; omega) (by omega) ?_
  intro va wa hoa hka
  obtain ⟨Aa, ca, rfl⟩ := own_shape hoa
  have B0a := Lib.hid (B0.out.kp hka (fun e => e))
  have B1a := Lib.hid (B1.out.kp hka (fun e => e))
  have HRa := Lib.hid (HR.out.still hka)
  have K0a := Lib.hid (K0.out.trans hka)

  have Oa := Lib.hid hoa
  clear hoa hka
  refine hK.out _ _ (⟨B0a.out.cell 0, B0a.out.cell 1, B0a.out.cell 2, B0a.out.cell 3⟩) (fun hHeld1 => ?_)
  clear hK K
  try simp only [Act.put, List.setIfInBounds_toArray, List.set_cons_zero, List.set_cons_succ]
  refine rd 7 (h := fun K hK => ?_)
  refine wp_copy (.const (.slice none 0 0)) (.tmp 9) 24 rfl 9 iS (.string ⟨#[]⟩) 16 Try.underlying24 s1 s2 s3 s4 rfl p.v _ _ (sts n.vals) rfl rfl (sts_len _) HRa.out.v (sts_one _) (by unfold maxLen; omega) (by omega) ?_
  intro vb wb hob hkb
  obtain ⟨Ab, cb, rfl⟩ := own_shape hob
  have B0b := Lib.hid (B0a.out.kp hkb (fun e => e))
  have B1b := Lib.hid (B1a.out.kp hkb (fun e => e))
  have HRb := Lib.hid (HRa.out.still hkb)
  have K0b := Lib.hid (K0a.out.trans hkb)
  have Oa := Lib.hid (nown_kp Oa.out hkb (fun q _ e => e))
  have Ob := Lib.hid hob
  clear hob hkb
  refine hK.out _ _ (⟨B0b.out.cell 0, B0b.out.cell 1, B0b.out.cell 2, B0b.out.cell 3⟩) (fun hHeld2 => ?_)
  clear hK K
  try simp only [Act.put, List.setIfInBounds_toArray, List.set_cons_zero, List.set_cons_succ]
  refine rd 10 (h := fun K hK => ?_)
  refine wp_copy (.const (.slice none 0 0)) (.tmp 12) 25 rfl 3 iI (.int .i64 0) 8 Try.underlying25 i1 i2 i3 i4 rfl p.c _ _ (its n.kids) rfl rfl (its_len _) HRb.out.c (its_one _) (by unfold maxLen; omega) (by omega) ?_
  intro vc wc hoc hkc
  obtain ⟨Ac, cc, rfl⟩ := own_shape hoc
  have B0c := Lib.hid (B0b.out.kp hkc (fun e => e))
  have B1c := Lib.hid (B1b.out.kp hkc (fun e => e))
  have HRc := Lib.hid (HRb.out.still hkc)
  have K0c := Lib.hid (K0b.out.trans hkc)
  have Oa := Lib.hid (nown_kp Oa.out hkc (fun q _ e => e))
  have Ob := Lib.hid (nown_kp Ob.out hkc (fun q _ e => e))
  have Oc := Lib.hid hoc
  clear hoc hkc
  refine hK.out _ _ (⟨B0c.out.cell 0, B0c.out.cell 1, B0c.out.cell 2, B0c.out.cell 3⟩) (fun hHeld3 => ?_)
  clear hK K
  try simp only [Act.put, List.setIfInBounds_toArray, List.set_cons_zero, List.set_cons_succ]
  refine tk 11 (h := ?_)
  refine rd 12 (h := fun K hK => ?_)
  rw [if_pos (by rfl)]
  refine nwp_store_box 36 (.tmp 2) (.tmp 14) rfl (w.heap.size + 1) [.bool n.leaf, .slice Aa n.keys.length ca, .slice Ab n.vals.length cb, .slice Ac n.kids.length cc] rfl rfl B1c.out rfl (by kernel_rfl) ?_ ?_
  · intro u hu
    simp only [List.mem_cons, List.not_mem_nil, or_false] at hu
    rcases hu with rfl | rfl | rfl | rfl
    · rfl
    · exact own_one Oa.out
    · exact own_one Ob.out
    · exact own_one Oc.out
  intro wd hbd hkd
  have ne : ∀ {t : TypeId} {v : Value} {n : Nat} {xs : List Value}, wc.ownsRow 0 t 1 v n xs → t ≠ 36 → ∀ q, v.ownBlock = some q → q ≠ w.heap.size + 1 := by
    intro t v n xs ho ht q hq e
    subst e
    exact ht (type_no (own_ltt ho hq).2 ⟨_, _, B1c.out⟩)
  have Oad := Lib.hid (nown_kp Oa.out hkd (ne Oa.out (by decide)))
  have Obd := Lib.hid (nown_kp Ob.out hkd (ne Ob.out (by decide)))
  have Ocd := Lib.hid (nown_kp Oc.out hkd (ne Oc.out (by decide)))
  have BD := Lib.hid hbd
  have B0d := Lib.hid (B0c.out.kp hkd (fun e => by omega))
  have K0d : Hid (Kp (fun _ => False) w wd) := Lib.hid (K0c.out.trans_new hkd (fun q e => .inl (by omega)))
  clear hbd hkd ne
  refine hK.out _ _ (⟨B0d.out.cell 0, B0d.out.cell 1, B0d.out.cell 2, B0d.out.cell 3⟩) (fun hHeld4 => ?_)
  clear hK K
  try simp only [Act.put]
  refine wpAnyH_done (by kernel_rfl) ?_ _
  go_wp2_with fail
  obtain ⟨q, hq, hr⟩ := node_of_own Oad.out Obd.out Ocd.out
  refine bodyPost_ret (v := .agg #[.bool n.leaf, .slice Aa n.keys.length ca, .slice Ab n.vals.length cb, .slice Ac n.kids.length cc]) ?_ rfl ?_
  · exact results_cell_row Hr.out _ _ (w.heap.size + 1) _ _ (0, 0) _ rfl BD.out Try.underlying36 rfl (by kernel_rfl)
  · exact ⟨q, by rw [hq], hr, K0d.out⟩
end Go.Proofs.Ytjapnkpicefadaa
