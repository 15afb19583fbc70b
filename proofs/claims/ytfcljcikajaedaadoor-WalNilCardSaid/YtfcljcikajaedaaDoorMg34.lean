/- What wal.counting answers: the head that counts. Conditions: the table of half bytes reads as the program's text lays it; the disk's own. -/
import Derived.Test.YtfcljcikajaedaaDoorMg33
import Derived.Test.YtfcljcikajaedaaDoorMg28
namespace Go.Proofs.YtfcljcikajaedaaDoor
open Go.RowKit

/-- What is told of a sector. -/
def tellV (d : Dm) (at_ : Nat) : Value := headV (if d.power then d.nowAt at_ else []) at_
def tellE (d : Dm) (at_ : Nat) : Int := if d.power then 0 else if at_ < d.on.length then 4 else 0
theorem nowAt_far {d : Dm} (ok : d.ok) (a : Nat) (h : d.on.length ≤ a) : d.nowAt a = [] := by
  unfold Dm.nowAt
  rcases hl : lastOf d.wait a with _ | i
  · simp [List.getD, Nat.not_lt.2 h]
  · obtain ⟨x, hx⟩ := lastOf_get d.wait a i hl
    have := ok.at_ _ (List.mem_of_getElem? hx)
    simp at this
    omega
theorem tell_results : Tryd.f26.results = #[.cell 4 39, .tmp 5] := rfl
section
variable {w : World} {b : Nat} {d : Dm} {F : Nat → Prop}
set_option maxRecDepth 100000 in
set_option maxHeartbeats 4000000 in
/-- A sector is told of, while nothing failed. -/
theorem tell_fine (hD : Dsk F w b d) (ht : Tbl w) (ge gp : Nat) (he : Box w ge 25 #[.int .i64 0]) (hp : Box w gp 34 #[.pointer (some ⟨b, 0, none⟩)]) (hge : ge ≠ 0) (at_ : Nat) :
    Calls Tryd.prog 26 #[.int .i64 at_, .pointer (some ⟨ge, 0, none⟩), .pointer (some ⟨gp, 0, none⟩)] w fun e w' => e = .returned (tellV d at_) ∧ Box w' ge 25 #[.int .i64 (tellE d at_)] ∧ Kp (fun k => k = ge) w w' := by
  obtain ⟨vs, vw, gm, hdk, hsub⟩ := hD
  have ok := hdk.ok
  have hD : Dsk F w b d := ⟨vs, vw, gm, hdk, hsub⟩
  clear hdk hsub
  by_cases hlt : at_ < d.on.length
  · have hd1 : decide (d.on.length ≤ at_) = false := by simp; omega
    have hsb : secB d at_ = true := by simp [secB]; omega
    rcases hpw : d.power with _ | _
    · have hx : d.readS at_ = ([], 4) := by simp [Dm.readS, hpw]
      have HV := Lib.hid (show tellV d at_ = .tuple #[.agg #[.int .u64 0, .int .u64 0, .int .i64 0, .string ⟨#[]⟩, .int .i64 0], .bool false] by rw [tellV, hpw]; exact headV_none headS_nil)
      have HI := Lib.hid (show tellE d at_ = 4 by simp [tellE, hpw, hlt])
      clear ok hsb hpw
      have B0 := Lib.hid (Box.new w 39 #[.int .u64 0, .int .u64 0, .int .i64 0, .string ⟨#[]⟩, .int .i64 0])
      have K0 := Lib.hid ((Kp.refl (fun _ => False) w).alloc (.cells #[.int .u64 0, .int .u64 0, .int .i64 0, .string ⟨#[]⟩, .int .i64 0] 39))
      have E0 := Lib.hid (he.alloc (.cells #[.int .u64 0, .int .u64 0, .int .i64 0, .string ⟨#[]⟩, .int .i64 0] 39))
      have P0 := Lib.hid (hp.alloc (.cells #[.int .u64 0, .int .u64 0, .int .i64 0, .string ⟨#[]⟩, .int .i64 0] 39))
      have D0 := Lib.hid (hD.still ((Kp.refl (fun _ => False) w).alloc (.cells #[.int .u64 0, .int .u64 0, .int .i64 0, .string ⟨#[]⟩, .int .i64 0] 39)))
      have hne : ge ≠ w.heap.size := by have := he.lt; omega
      have HT := Lib.hid ht
      clear hD ht he hp
      go_enter Tryd.func26, Tryd.ntmps26
      go_upto_region 1 with fail
      generalize w.alloc (.cells #[.int .u64 0, .int .u64 0, .int .i64 0, .string ⟨#[]⟩, .int .i64 0] 39) = w0 at *
      have c0 := E0.out.cell 0
      have p0 := P0.out.cell 0
      simp at c0 p0
      go_wp2_with fail
      refine (len_any D0.out).mono ?_
      rintro e w1 ⟨rfl, rfl⟩
      have hrd := read_any D0.out at_
      rw [hx] at hrd
      clear hx
      go_wp2_with fail
      refine hrd.mono ?_
      clear hrd c0 p0
      rintro e w1 ⟨A, rfl, hr, hk⟩
      have B1 := Lib.hid (B0.out.kp hk (fun e => e))
      have E1 := Lib.hid (E0.out.kp hk (fun e => e))
      have K1 := Lib.hid (K0.out.trans hk)
      have R1 := Lib.hid hr
      clear hr hk
      have c0 := E1.out.cell 0
      have f0 := E1.out.free 0
      simp at c0
      have E2 := Lib.hid (E1.out.put 0 (.int .i64 4))
      have B2 := Lib.hid (B1.out.far (p := ⟨ge, 0, none⟩) (fun e => hne e.symm) (.int .i64 4))
      have K2 := Lib.hid (Kp.setCell (S := fun k => k = ge) (p := ⟨ge, 0, none⟩) (K1.out.mono (fun _ _ e => e.elim)) (.inr rfl) (.int .i64 4))
      have hrk := R1.out.kp_box (w' := w1.setCell ⟨ge, 0, none⟩ (.int .i64 4)) (Kp.one w1 ge 0 (.int .i64 4)) E1.out (by intro i u; cases i with | zero => simp | succ i => simp)
      have R2 := Lib.hid hrk
      clear hrk
      go_upto_region 5 with fail
      generalize w1.setCell ⟨ge, 0, none⟩ (.int .i64 4) = w2 at *
      clear c0 f0
      go_wp2_with fail
      refine (headOf_any A 0 0 [] at_ w2 R2.out (HT.out.kp K2.out (fun e => hge.symm e)) rfl (.inr rfl)).mono ?_
      rintro e w3 ⟨rfl, hk⟩
      have B3 := Lib.hid (B2.out.kp hk (fun e => e))
      have E3 := Lib.hid (E2.out.kp hk (fun e => e))
      have K3 := Lib.hid (K2.out.trans (hk.mono (fun _ _ e => e.elim)))
      clear hk

      rw [headV_none headS_nil]
      go_wp2_with (first | (refine wpList_store_box rfl 39 (.tmp 4) (.tmp 25) rfl w.heap.size [.int .u64 0, .int .u64 0, .int .i64 0, .string ⟨#[]⟩, .int .i64 0] rfl rfl B3.out rfl info_head z5_one ?_; intro W hb hk) | fail)
      have KF : Kp (fun k => k = ge) w W := K3.out.trans_new hk (fun b e => .inl (by omega))
      have EF := E3.out.kp hk (fun e => hne e)

      rw [HV.out, HI.out]
      refine bodyPost_ret (v := .tuple #[.agg #[.int .u64 0, .int .u64 0, .int .i64 0, .string ⟨#[]⟩, .int .i64 0], .bool false]) ?_ rfl ⟨rfl, EF, KF⟩
      exact results_two tell_results _ _ w.heap.size 39 _ (0, 0) _ rfl hb Tryd.underlying39 rfl info_head

    · have hx : d.readS at_ = (d.nowAt at_, 0) := by simp [Dm.readS, hpw, hsb]
      have hl5 : (d.nowAt at_).length = 512 := nowAt_length ok at_ hlt
      have HTV := Lib.hid (show tellV d at_ = headV (d.nowAt at_) at_ by rw [tellV, hpw]; rfl)
      have HI := Lib.hid (show tellE d at_ = 0 by simp [tellE, hpw])
      obtain ⟨l, hl⟩ : ∃ l, d.nowAt at_ = l := ⟨_, rfl⟩
      rw [hl] at hx hl5 HTV
      have HL5 := Lib.hid hl5
      clear ok hsb hpw hl hl5
      have B0 := Lib.hid (Box.new w 39 #[.int .u64 0, .int .u64 0, .int .i64 0, .string ⟨#[]⟩, .int .i64 0])
      have K0 := Lib.hid ((Kp.refl (fun _ => False) w).alloc (.cells #[.int .u64 0, .int .u64 0, .int .i64 0, .string ⟨#[]⟩, .int .i64 0] 39))
      have E0 := Lib.hid (he.alloc (.cells #[.int .u64 0, .int .u64 0, .int .i64 0, .string ⟨#[]⟩, .int .i64 0] 39))
      have P0 := Lib.hid (hp.alloc (.cells #[.int .u64 0, .int .u64 0, .int .i64 0, .string ⟨#[]⟩, .int .i64 0] 39))
      have D0 := Lib.hid (hD.still ((Kp.refl (fun _ => False) w).alloc (.cells #[.int .u64 0, .int .u64 0, .int .i64 0, .string ⟨#[]⟩, .int .i64 0] 39)))
      have hne : ge ≠ w.heap.size := by have := he.lt; omega
      have HT := Lib.hid ht
      clear hD ht he hp
      go_enter Tryd.func26, Tryd.ntmps26
      go_upto_region 1 with fail
      generalize w.alloc (.cells #[.int .u64 0, .int .u64 0, .int .i64 0, .string ⟨#[]⟩, .int .i64 0] 39) = w0 at *
      have c0 := E0.out.cell 0
      have p0 := P0.out.cell 0
      simp at c0 p0
      go_wp2_with fail
      refine (len_any D0.out).mono ?_
      rintro e w1 ⟨rfl, rfl⟩
      have hrd := read_any D0.out at_
      rw [hx] at hrd
      dsimp only at hrd
      rw [HL5.out] at hrd
      clear hx
      go_wp2_with fail
      refine hrd.mono ?_
      clear hrd c0 p0
      rintro e w1 ⟨A, rfl, hr, hk⟩
      have B1 := Lib.hid (B0.out.kp hk (fun e => e))
      have E1 := Lib.hid (E0.out.kp hk (fun e => e))
      have K1 := Lib.hid (K0.out.trans hk)
      have R1 := Lib.hid hr
      clear hr hk
      have c0 := E1.out.cell 0
      have f0 := E1.out.free 0
      simp at c0
      have E2 := Lib.hid (E1.out.put 0 (.int .i64 0))
      have B2 := Lib.hid (B1.out.far (p := ⟨ge, 0, none⟩) (fun e => hne e.symm) (.int .i64 0))
      have K2 := Lib.hid (Kp.setCell (S := fun k => k = ge) (p := ⟨ge, 0, none⟩) (K1.out.mono (fun _ _ e => e.elim)) (.inr rfl) (.int .i64 0))
      have hrk := R1.out.kp_box (w' := w1.setCell ⟨ge, 0, none⟩ (.int .i64 0)) (Kp.one w1 ge 0 (.int .i64 0)) E1.out (by intro i u; cases i with | zero => simp | succ i => simp)
      have R2 := Lib.hid hrk
      clear hrk
      go_upto_region 5 with fail
      generalize w1.setCell ⟨ge, 0, none⟩ (.int .i64 0) = w2 at *
      clear c0 f0
      go_wp2_with fail
      refine (headOf_any A 512 512 l at_ w2 R2.out (HT.out.kp K2.out (fun e => hge.symm e)) HL5.out (.inl rfl)).mono ?_
      rintro e w3 ⟨rfl, hk⟩
      have B3 := Lib.hid (B2.out.kp hk (fun e => e))
      have E3 := Lib.hid (E2.out.kp hk (fun e => e))
      have K3 := Lib.hid (K2.out.trans (hk.mono (fun _ _ e => e.elim)))
      clear hk

      rcases hh : headS l with _ | h
      · rw [headV_none hh]
        have HV := Lib.hid (HTV.out.trans (headV_none hh))
        clear hh
        go_wp2_with (first | (refine wpList_store_box rfl 39 (.tmp 4) (.tmp 25) rfl w.heap.size [.int .u64 0, .int .u64 0, .int .i64 0, .string ⟨#[]⟩, .int .i64 0] rfl rfl B3.out rfl info_head z5_one ?_; intro W hb hk) | fail)
        have KF : Kp (fun k => k = ge) w W := K3.out.trans_new hk (fun b e => .inl (by omega))
        have EF := E3.out.kp hk (fun e => hne e)

        rw [HV.out, HI.out]
        refine bodyPost_ret (v := .tuple #[.agg #[.int .u64 0, .int .u64 0, .int .i64 0, .string ⟨#[]⟩, .int .i64 0], .bool false]) ?_ rfl ⟨rfl, EF, KF⟩
        exact results_two tell_results _ _ w.heap.size 39 _ (0, 0) _ rfl hb Tryd.underlying39 rfl info_head

      · rw [headV_some hh]
        have HV := Lib.hid (HTV.out.trans (headV_some hh))
        clear hh
        go_wp2_with (first | (refine wpList_store_box rfl 39 (.tmp 4) (.tmp 25) rfl w.heap.size (hcs h at_) rfl rfl B3.out rfl info_head (hcs_one h at_) ?_; intro W hb hk) | fail)
        have KF : Kp (fun k => k = ge) w W := K3.out.trans_new hk (fun b e => .inl (by omega))
        have EF := E3.out.kp hk (fun e => hne e)

        rw [HV.out, HI.out]
        refine bodyPost_ret (v := .tuple #[.agg (hcs h at_).toArray, .bool true]) ?_ rfl ⟨rfl, EF, KF⟩
        exact results_two tell_results _ _ w.heap.size 39 _ (0, 0) _ rfl hb Tryd.underlying39 rfl info_head

  · have hd1 : decide (d.on.length ≤ at_) = true := by simp; omega
    have hl : (if d.power then d.nowAt at_ else []) = [] := by split <;> simp [nowAt_far ok at_ (by omega)]
    have HV := Lib.hid (show tellV d at_ = .tuple #[.agg #[.int .u64 0, .int .u64 0, .int .i64 0, .string ⟨#[]⟩, .int .i64 0], .bool false] by rw [tellV, hl]; exact headV_none headS_nil)
    have HI := Lib.hid (show tellE d at_ = 0 by simp [tellE, hlt])
    clear ok hl hlt
    have B0 := Lib.hid (Box.new w 39 #[.int .u64 0, .int .u64 0, .int .i64 0, .string ⟨#[]⟩, .int .i64 0])
    have K0 := Lib.hid ((Kp.refl (fun _ => False) w).alloc (.cells #[.int .u64 0, .int .u64 0, .int .i64 0, .string ⟨#[]⟩, .int .i64 0] 39))
    have E0 := Lib.hid (he.alloc (.cells #[.int .u64 0, .int .u64 0, .int .i64 0, .string ⟨#[]⟩, .int .i64 0] 39))
    have P0 := Lib.hid (hp.alloc (.cells #[.int .u64 0, .int .u64 0, .int .i64 0, .string ⟨#[]⟩, .int .i64 0] 39))
    have D0 := Lib.hid (hD.still ((Kp.refl (fun _ => False) w).alloc (.cells #[.int .u64 0, .int .u64 0, .int .i64 0, .string ⟨#[]⟩, .int .i64 0] 39)))
    have hne : ge ≠ w.heap.size := by have := he.lt; omega
    have HT := Lib.hid ht
    clear hD ht he hp
    go_enter Tryd.func26, Tryd.ntmps26
    go_upto_region 1 with fail
    generalize w.alloc (.cells #[.int .u64 0, .int .u64 0, .int .i64 0, .string ⟨#[]⟩, .int .i64 0] 39) = w0 at *
    have c0 := E0.out.cell 0
    have p0 := P0.out.cell 0
    simp at c0 p0
    go_wp2_with fail
    refine (len_any D0.out).mono ?_
    rintro e w1 ⟨rfl, rfl⟩

    go_wp2_with (first | (refine wpList_store_box rfl 39 (.tmp 4) (.tmp 15) rfl w.heap.size [.int .u64 0, .int .u64 0, .int .i64 0, .string ⟨#[]⟩, .int .i64 0] rfl rfl B0.out rfl info_head z5_one ?_; intro W hb hk) | fail)
    have KF : Kp (fun k => k = ge) w W := (K0.out.mono (fun _ _ e => e.elim)).trans_new hk (fun b e => .inl (by omega))
    have EF := E0.out.kp hk (fun e => hne e)
    rw [HV.out, HI.out]
    refine bodyPost_ret (v := .tuple #[.agg #[.int .u64 0, .int .u64 0, .int .i64 0, .string ⟨#[]⟩, .int .i64 0], .bool false]) ?_ rfl ⟨rfl, EF, KF⟩
    exact results_two tell_results _ _ w.heap.size 39 _ (0, 0) _ rfl hb Tryd.underlying39 rfl info_head

set_option maxRecDepth 100000 in
set_option maxHeartbeats 2000000 in
/-- Once something failed nothing is told. -/
theorem tell_failed (ge gp : Nat) (he : Box w ge 25 #[.int .i64 4]) (at_ : Nat) :
    Calls Tryd.prog 26 #[.int .i64 at_, .pointer (some ⟨ge, 0, none⟩), .pointer (some ⟨gp, 0, none⟩)] w fun e w' => e = .returned (.tuple #[.agg #[.int .u64 0, .int .u64 0, .int .i64 0, .string ⟨#[]⟩, .int .i64 0], .bool false]) ∧ Kp (fun _ => False) w w' := by
  have B0 := Lib.hid (Box.new w 39 #[.int .u64 0, .int .u64 0, .int .i64 0, .string ⟨#[]⟩, .int .i64 0])
  have K0 := Lib.hid ((Kp.refl (fun _ => False) w).alloc (.cells #[.int .u64 0, .int .u64 0, .int .i64 0, .string ⟨#[]⟩, .int .i64 0] 39))
  have E0 := Lib.hid (he.alloc (.cells #[.int .u64 0, .int .u64 0, .int .i64 0, .string ⟨#[]⟩, .int .i64 0] 39))
  clear he
  go_enter Tryd.func26, Tryd.ntmps26
  go_upto_region 1 with fail
  generalize w.alloc (.cells #[.int .u64 0, .int .u64 0, .int .i64 0, .string ⟨#[]⟩, .int .i64 0] 39) = w0 at *
  have c0 := E0.out.cell 0
  simp at c0
  go_wp2_with (first | (refine wpList_store_box rfl 39 (.tmp 4) (.tmp 15) rfl w.heap.size [.int .u64 0, .int .u64 0, .int .i64 0, .string ⟨#[]⟩, .int .i64 0] rfl rfl B0.out rfl info_head z5_one ?_; intro W hb hk) | fail)
  have KF : Kp (fun _ => False) w W := K0.out.trans_new hk (fun b e => .inl (by omega))
  refine bodyPost_ret (v := .tuple #[.agg #[.int .u64 0, .int .u64 0, .int .i64 0, .string ⟨#[]⟩, .int .i64 0], .bool false]) ?_ rfl ⟨rfl, KF⟩
  exact results_two tell_results _ _ w.heap.size 39 _ (0, 0) _ rfl hb Tryd.underlying39 rfl info_head

end
end Go.Proofs.YtfcljcikajaedaaDoor
