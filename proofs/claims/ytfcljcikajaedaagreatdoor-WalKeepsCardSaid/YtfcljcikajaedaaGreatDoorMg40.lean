/- The document's own disk: read, write. Conditions: the disk's own; fewer than 2^30 writes that wait. -/
import Derived.Test.YtfcljcikajaedaaGreatDoorMg39
namespace Go.Proofs.YtfcljcikajaedaaGreatDoor
open Go.RowKit Go.Maps

theorem run_append_nil_empty {P : Program} {w : World} (t ty e : TypeId) (i : TypeInfo) (ht : P.underlying t = some (.slice e)) (hi : P.info? e = some i) (cap : Nat) :
    (Builtin.append_ #[t, t] ty #[.slice none 0 0, .slice none 0 cap]).run P w = .ok (.slice none 0 0) w := by
  simp [Builtin.append_, run_underlying ht, sizeOf, typeInfo, hi, Builtin.lenOf, Builtin.firstCells]
/-- A row that is read, copied into a new one: append to nil. -/
theorem wpList_append_rdr {P : Program} {w : World} {ops : Array Oper} {rest : List Oper} {o : Oper} {a : Act} {Q : Exit → Act → World → Prop} (hgd : o.guard = none) (s x : Operand) (t : TypeId)
    (ho : o.op = .call { callee := .builtin .append, args := #[s, x], argTypes := #[t, t] })
    (e : TypeId) (i : TypeInfo) (z : Value) (size bytes : Nat) (ht : P.underlying t = some (.slice e)) (hi : P.info? e = some i) (hz : i.zero = some z)
    (hsize : i.size = size) (hby : i.bytes = bytes) (hzs : z.cells.size = size) (hsz : 0 < size)
    (v : Value) (n : Nat) (xs : List Value) (hs : a.eval s = .slice none 0 0) (hx : a.eval x = v) (hr : RdR w e size v n xs) (h1 : ∀ u ∈ xs, u.oneCell' = true)
    (h63 : n ≤ maxLen) (hbytes : n * bytes ≤ 140737488355328)
    (h : ∀ v' w', w'.ownsRow w.heap.size e size v' n xs → w.grownBy w' none → wpList P ops Q rest (a.put o.dst v') w') : wpList P ops Q (o :: rest) a w := by
  obtain ⟨hl, A, cap, hv, hcap, hc⟩ := hr
  subst hv
  cases A with
  | none =>
    rcases hc with h0 | ⟨b, cur, e1, _⟩
    · subst h0
      have hxs : xs = [] := List.eq_nil_of_length_eq_zero (by omega)
      subst hxs
      refine wpList_plain hgd fun K hK => ?_
      have hrun := run_append_nil_empty (P := P) (w := w) t o.type e i ht hi cap
      unfold Oper.wp
      simp [execOp, ho, resolve, invoke, builtin, hs, hx, hrun, Result.andThen]
      exact hK _ _ (h _ _ (World.ownsRow_nil _ _ _ _) ⟨rfl, rfl, rfl, Nat.le_refl _, fun _ _ _ => rfl⟩)
    · cases e1
  | some ad =>
    refine wpList_append_own w hgd s x t ho w.heap.size e i z size bytes ht hi hz hsize hby hzs hsz (.slice none 0 0) 0 [] hs (World.ownsRow_nil _ _ _ _) ad n cap xs hx hl (fun j u hj => ?_) h1 (by omega) (by simpa using hbytes) (Nat.le_refl _) (fun v' w' h2 h3 _ => ?_)
    · rcases hc with h0 | ⟨b, cur, e1, hb, hcur⟩
      · subst h0
        have hxs : xs = [] := List.eq_nil_of_length_eq_zero (by omega)
        subst hxs
        simp at hj
      · cases e1
        rw [Addr.add_mid, Nat.zero_add, hb.cell]
        exact hcur j u hj
    · rw [Nat.zero_add, List.nil_append] at h2
      exact h v' w' h2 h3
theorem wtInfo : ∃ i, Tryz.prog.info? 142 = some i ∧ i.zero = some (.agg #[.int .i64 0, .string ⟨#[]⟩]) ∧ i.size = 2 ∧ i.bytes = 24 := by
  have h : (Tryz.prog.info? 142).map (fun i => (i.zero, i.size, i.bytes)) = some (some (.agg #[.int .i64 0, .string ⟨#[]⟩]), 2, 24) := by kernel_rfl
  obtain ⟨i, h1, h2, h3, h4⟩ := info_parts h
  exact ⟨i, h1, h2, h3, h4⟩
theorem prs_one (l : List (Nat × List UInt8)) : ∀ u ∈ prs l, u.oneCell' = true := fun u hu => by
  obtain ⟨x, _, hx⟩ := List.mem_flatMap.1 hu
  simp only [List.mem_cons, List.not_mem_nil, or_false] at hx
  rcases hx with rfl | rfl <;> rfl

set_option maxRecDepth 100000 in
set_option maxHeartbeats 4000000 in
theorem rread_any {w : World} {vo vw : Value} {d : Dm} (h : Rf w vo vw d) (ok : d.ok) (a : Int) :
    Calls Tryz.prog 109 #[.agg (rcs d vo vw), .int .i64 a] w fun e w' => e = .returned (.tuple #[.string ⟨(d.readS a).1.toArray⟩, .int .i64 (d.readS a).2]) ∧ Kp (fun _ => False) w w' := by
  obtain ⟨_, Ao, co, hvo, hco, _⟩ := h.on
  obtain ⟨_, Aw, cw, hvw, hcw, _⟩ := h.wt
  subst hvo
  subst hvw
  obtain ⟨W, hW, hb0, hkw⟩ : ∃ W, W = w.alloc (.cells (rcs d (.slice Ao d.on.length co) (.slice Aw d.wait.length cw)) 37) ∧ Box W w.heap.size 37 (rcs d (.slice Ao d.on.length co) (.slice Aw d.wait.length cw)) ∧ Kp (fun _ => False) w W := ⟨_, rfl, Box.new w _ _, (Kp.refl _ w).alloc _⟩
  have HW := Lib.hid hW
  have B0 := Lib.hid hb0
  have KW := Lib.hid hkw
  have H0 := Lib.hid (h.still hkw)
  have y2 : W.cell? ⟨w.heap.size, 2, none⟩ = some (.bool (!d.power)) := B0.out.cell 2
  have hwl := ok.waits
  have hfew := ok.few
  clear hb0 hkw hW h ok
  rcases hp : d.power with _ | _
  · have hx : d.readS a = ([], 4) := by simp [Dm.readS, hp]
    rw [hx]
    rw [hp, Bool.not_false] at y2
    clear hx hp
    go_enter Tryz.func109, Tryz.ntmps109
    go_upto_region 1 with fail
    rw [← HW.out]
    go_wp2_with fail
    go_ret2
    exact ⟨rfl, KW.out⟩
  rw [hp, Bool.not_true] at y2
  have y0 : W.cell? ⟨w.heap.size, 0, none⟩ = some (.slice Ao d.on.length co) := B0.out.cell 0
  by_cases ha : a < 0
  · have hx : d.readS a = ([], 2) := by
      have : secB d a = false := by simp [secB]; omega
      simp [Dm.readS, hp, this]
    rw [hx]
    clear hx hp y0
    go_enter Tryz.func109, Tryz.ntmps109
    go_upto_region 1 with fail
    rw [← HW.out]
    go_wp2_with fail
    go_ret2
    exact ⟨rfl, KW.out⟩
  obtain ⟨k, rfl⟩ : ∃ k : Nat, a = k := ⟨a.toNat, by omega⟩
  by_cases hk : k < d.on.length
  · have hx : d.readS k = (d.nowAt k, 0) := by
      have : secB d k = true := by simp [secB]; omega
      simp [Dm.readS, hp, this]
    rw [hx, nowAt_eq]
    obtain ⟨go_, co', hvg, _, hcell⟩ := H0.out.on.cell (show 0 < d.on.length by omega)
    injection hvg with hA hB0 hC
    clear hB0
    subst hA
    subst hC
    have c0 : W.cell? ⟨go_, k, none⟩ = some (.string ⟨(d.on.getD k []).toArray⟩) := hcell _ _ (strs_get d.on k hk)
    have y1 : W.cell? ⟨w.heap.size, 1, none⟩ = some (.slice Aw d.wait.length cw) := B0.out.cell 1
    clear hx hp hcell
    go_enter Tryz.func109, Tryz.ntmps109
    go_upto_region 1 with fail
    rw [← HW.out]
    go_wp2_with fail
    go_loop [6, 7] (fun s i => ∃ (j : Nat), j ≤ d.wait.length ∧ i = .int .i64 j ∧ s = .string ⟨(lastB d.on (d.wait.take j) k).toArray⟩) (fun _ i => d.wait.length - (intOf i).toNat)
    case atStart => exact ⟨0, Nat.zero_le _, rfl, by simp [lastB, lastOf, List.getD, hk]⟩
    case round =>
      obtain ⟨j, hj, rfl, rfl⟩ := hrel
      by_cases hlt : j < d.wait.length
      · obtain ⟨gw, cw', hvg, _, hcell⟩ := H0.out.wt.cell (show 0 < d.wait.length by omega)
        injection hvg with hA hB0 hC
        clear hB0
        subst hA
        subst hC
        obtain ⟨x, hx⟩ : ∃ x, d.wait[j]? = some x := ⟨_, List.getElem?_eq_getElem hlt⟩
        obtain ⟨p0, p1⟩ := prs_get d.wait j x hx
        have e0 : W.cell? ⟨gw, j * 2, none⟩ = some (.int .i64 x.1) := hcell _ _ p0
        have e1 : W.cell? ⟨gw, j * 2 + 1, none⟩ = some (.string ⟨x.2.toArray⟩) := hcell _ _ p1
        have hsnoc : d.wait.take (j + 1) = d.wait.take j ++ [x] := by rw [List.take_add_one, hx]; rfl
        have hl := lastB_snoc d.on (d.wait.take j) x k
        rw [← hsnoc] at hl
        clear hx hcell p0 p1 hsnoc
        by_cases hxk : x.1 = k
        · rw [if_pos hxk] at hl
          have HL := Lib.hid hl
          have hd : (((x.1 : Nat) : Int) == (k : Int)) = true := by simp [hxk]
          have HXK := Lib.hid hxk
          clear hl hxk
          go_wp2_with fail
          go_round
          case rel => exact ⟨j + 1, by omega, by go_num, by rw [HL.out]⟩
          case measure => simp [intOf]; omega
        · rw [if_neg hxk] at hl
          have HL := Lib.hid hl
          have hd : (((x.1 : Nat) : Int) == (k : Int)) = false := by simp; omega
          have HXK := Lib.hid hxk
          clear hl hxk
          go_wp2_with fail
          go_round
          case rel => exact ⟨j + 1, by omega, by go_num, by rw [HL.out]⟩
          case measure => simp [intOf]; omega
      · obtain rfl : j = d.wait.length := by omega
        go_wp2_with fail
        go_ret2
        exact ⟨rfl, KW.out⟩
  · have hx : d.readS k = ([], 2) := by
      have : secB d k = false := by simp [secB]; omega
      simp [Dm.readS, hp, this]
    rw [hx]
    clear hx hp
    go_enter Tryz.func109, Tryz.ntmps109
    go_upto_region 1 with fail
    rw [← HW.out]
    go_wp2_with fail
    go_ret2
    exact ⟨rfl, KW.out⟩
end Go.Proofs.YtfcljcikajaedaaGreatDoor
