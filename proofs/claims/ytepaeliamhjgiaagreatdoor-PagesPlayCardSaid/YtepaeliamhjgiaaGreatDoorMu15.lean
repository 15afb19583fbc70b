/- The law of pages, part 15 of 55: WlCount DkRef DkRefA DkGoes. -/
import Derived.Test.YtepaeliamhjgiaaGreatDoorMu1
import Derived.Test.YtepaeliamhjgiaaGreatDoorMu14
import Derived.Deep.DeepCutAuto
import Derived.Deep.CutRange
import Derived.Deep.CutBlock
set_option maxHeartbeats 16000000
set_option maxRecDepth 100000
namespace Go.Proofs.YtepaeliamhjgiaaGreatDoor
open Go.RowKit
def tellV (d : Dm) (at_ : Nat) : Value := headV (if d.power then d.nowAt at_ else []) at_
def tellE (d : Dm) (at_ : Nat) : Int := if d.power then 0 else if at_ < d.on.length then 4 else 0
theorem nowAt_far {d : Dm} (ok : d.ok) (a : Nat) (h : d.on.length <= a) : d.nowAt a = [] := by
 unfold Dm.nowAt
 rcases hl : lastOf d.wait a with _ | i
 ·simp [List.getD, Nat.not_lt.2 h]
 ·obtain ⟨x, hx⟩ := lastOf_get d.wait a i hl
  have := ok.at_ _ (List.mem_of_getElem? hx)
  simp at this
  omega
theorem tell_results : Tryz.f133.results = #[.cell 4 122, .tmp 5] := rfl
section
variable {w : World} {b : Nat} {d : Dm} {F : Nat -> Prop}
theorem tell_fine (hD : Dsk F w b d) (ht : Tbl w) (ge gp : Nat) (he : Box w ge 32 #[.int .i64 0]) (hp : Box w gp 35 #[.pointer (some ⟨b, 0, none⟩)]) (hge : ge ≠ 1) (at_ : Nat) :
  Calls Tryz.prog 133 #[.int .i64 at_, .pointer (some ⟨ge, 0, none⟩), .pointer (some ⟨gp, 0, none⟩)] w fun e w' => e = .returned (tellV d at_) /\ Box w' ge 32 #[.int .i64 (tellE d at_)] /\ Kp (fun k => k = ge) w w' := by
 obtain ⟨vs, vw, gm, hdk, hsub⟩ := hD
 have ok := hdk.ok
 have hD : Dsk F w b d := ⟨vs, vw, gm, hdk, hsub⟩
 clear hdk hsub
 by_cases hlt : at_ < d.on.length
 ·have hd1 : decide (d.on.length <= at_) = false := by simp; omega
  have hsb : secB d at_ = true := by simp [secB]; omega
  rcases hpw : d.power with _ | _
  ·have hx : d.readS at_ = ([], 4) := by simp [Dm.readS, hpw]
   have HV := hHd (show tellV d at_ = .tuple #[.agg #[.int .u64 0, .int .u64 0, .int .i64 0, .string ⟨#[]⟩, .int .i64 0], .bool false] by rw [tellV, hpw]; exact headV_none headS_nil)
   have HI := hHd (show tellE d at_ = 4 by simp [tellE, hpw, hlt])
   clear ok hsb hpw
   have B0 := hHd (Box.new w 122 #[.int .u64 0, .int .u64 0, .int .i64 0, .string ⟨#[]⟩, .int .i64 0])
   have K0 := hHd ((Kp.refl (fun _ => False) w).alloc (.cells #[.int .u64 0, .int .u64 0, .int .i64 0, .string ⟨#[]⟩, .int .i64 0] 122))
   have E0 := hHd (he.alloc (.cells #[.int .u64 0, .int .u64 0, .int .i64 0, .string ⟨#[]⟩, .int .i64 0] 122))
   have P0 := hHd (hp.alloc (.cells #[.int .u64 0, .int .u64 0, .int .i64 0, .string ⟨#[]⟩, .int .i64 0] 122))
   have D0 := hHd (hD.still ((Kp.refl (fun _ => False) w).alloc (.cells #[.int .u64 0, .int .u64 0, .int .i64 0, .string ⟨#[]⟩, .int .i64 0] 122)))
   have hne : ge ≠ w.heap.size := by have := he.lt; omega
   have HT := hHd ht
   clear hD ht he hp
   go_enter Tryz.func133, Tryz.ntmps133
   go_upto_region 1 with fail
   generalize w.alloc (.cells #[.int .u64 0, .int .u64 0, .int .i64 0, .string ⟨#[]⟩, .int .i64 0] 122) = w0 at *
   have c0 := E0.out.cell 0
   have p0 := P0.out.cell 0
   simp at c0 p0
   go_wp2_with fail
   refine (len_any D0.out).mono ?_
   rintro e w1 ⟨rfl, rfl⟩
   have hrd := read_any D0.out at_
   rw [hx] at hrd
   clear hx
   go_wp2_with fail
   refine hrd.mono ?_
   clear hrd c0 p0
   rintro e w1 ⟨A, rfl, hr, hk⟩
   have B1 := hHd (B0.out.kp hk (fun e => e))
   have E1 := hHd (E0.out.kp hk (fun e => e))
   have K1 := hHd (K0.out.trans hk)
   have R1 := hHd hr
   clear hr hk
   have c0 := E1.out.cell 0
   have f0 := E1.out.free 0
   simp at c0
   have E2 := hHd (E1.out.put 0 (.int .i64 4))
   have B2 := hHd (B1.out.far (p := ⟨ge, 0, none⟩) (fun e => hne e.symm) (.int .i64 4))
   have K2 := hHd (Kp.setCell (S := fun k => k = ge) (p := ⟨ge, 0, none⟩) (K1.out.mono (fun _ _ e => e.elim)) (.inr rfl) (.int .i64 4))
   have hrk := R1.out.kp_box (w' := w1.setCell ⟨ge, 0, none⟩ (.int .i64 4)) (Kp.one w1 ge 0 (.int .i64 4)) E1.out (by intro i u; cases i with | zero => simp | succ i => simp)
   have R2 := hHd hrk
   clear hrk
   go_upto_region 5 with fail
   generalize w1.setCell ⟨ge, 0, none⟩ (.int .i64 4) = w2 at *
   clear c0 f0
   go_wp2_with fail
   refine (headOf_any A 0 0 [] at_ w2 R2.out (HT.out.kp K2.out (fun e => hge.symm e)) rfl (.inr rfl)).mono ?_
   rintro e w3 ⟨rfl, hk⟩
   have B3 := hHd (B2.out.kp hk (fun e => e))
   have E3 := hHd (E2.out.kp hk (fun e => e))
   have K3 := hHd (K2.out.trans (hk.mono (fun _ _ e => e.elim)))
   clear hk
   rw [headV_none headS_nil]
   go_wp2_with (first | (refine wpList_store_box rfl 122 (.tmp 4) (.tmp 25) rfl w.heap.size [.int .u64 0, .int .u64 0, .int .i64 0, .string ⟨#[]⟩, .int .i64 0] rfl rfl B3.out rfl info_head z5_one ?_; intro W hb hk) | fail)
   have KF : Kp (fun k => k = ge) w W := K3.out.trans_new hk (fun b e => .inl (by omega))
   have EF := E3.out.kp hk (fun e => hne e)
   rw [HV.out, HI.out]
   refine bodyPost_ret (v := .tuple #[.agg #[.int .u64 0, .int .u64 0, .int .i64 0, .string ⟨#[]⟩, .int .i64 0], .bool false]) ?_ rfl ⟨rfl, EF, KF⟩
   exact results_two tell_results _ _ w.heap.size 122 _ (0, 0) _ rfl hb Tryz.underlying122 rfl info_head
  ·have hx : d.readS at_ = (d.nowAt at_, 0) := by simp [Dm.readS, hpw, hsb]
   have hl5 : (d.nowAt at_).length = 512 := nowAt_length ok at_ hlt
   have HTV := hHd (show tellV d at_ = headV (d.nowAt at_) at_ by rw [tellV, hpw]; rfl)
   have HI := hHd (show tellE d at_ = 0 by simp [tellE, hpw])
   obtain ⟨l, hl⟩ : ∃ l, d.nowAt at_ = l := ⟨_, rfl⟩
   rw [hl] at hx hl5 HTV
   have HL5 := hHd hl5
   clear ok hsb hpw hl hl5
   have B0 := hHd (Box.new w 122 #[.int .u64 0, .int .u64 0, .int .i64 0, .string ⟨#[]⟩, .int .i64 0])
   have K0 := hHd ((Kp.refl (fun _ => False) w).alloc (.cells #[.int .u64 0, .int .u64 0, .int .i64 0, .string ⟨#[]⟩, .int .i64 0] 122))
   have E0 := hHd (he.alloc (.cells #[.int .u64 0, .int .u64 0, .int .i64 0, .string ⟨#[]⟩, .int .i64 0] 122))
   have P0 := hHd (hp.alloc (.cells #[.int .u64 0, .int .u64 0, .int .i64 0, .string ⟨#[]⟩, .int .i64 0] 122))
   have D0 := hHd (hD.still ((Kp.refl (fun _ => False) w).alloc (.cells #[.int .u64 0, .int .u64 0, .int .i64 0, .string ⟨#[]⟩, .int .i64 0] 122)))
   have hne : ge ≠ w.heap.size := by have := he.lt; omega
   have HT := hHd ht
   clear hD ht he hp
   go_enter Tryz.func133, Tryz.ntmps133
   go_upto_region 1 with fail
   generalize w.alloc (.cells #[.int .u64 0, .int .u64 0, .int .i64 0, .string ⟨#[]⟩, .int .i64 0] 122) = w0 at *
   have c0 := E0.out.cell 0
   have p0 := P0.out.cell 0
   simp at c0 p0
   go_wp2_with fail
   refine (len_any D0.out).mono ?_
   rintro e w1 ⟨rfl, rfl⟩
   have hrd := read_any D0.out at_
   rw [hx] at hrd
   dsimp only at hrd
   rw [HL5.out] at hrd
   clear hx
   go_wp2_with fail
   refine hrd.mono ?_
   clear hrd c0 p0
   rintro e w1 ⟨A, rfl, hr, hk⟩
   have B1 := hHd (B0.out.kp hk (fun e => e))
   have E1 := hHd (E0.out.kp hk (fun e => e))
   have K1 := hHd (K0.out.trans hk)
   have R1 := hHd hr
   clear hr hk
   have c0 := E1.out.cell 0
   have f0 := E1.out.free 0
   simp at c0
   have E2 := hHd (E1.out.put 0 (.int .i64 0))
   have B2 := hHd (B1.out.far (p := ⟨ge, 0, none⟩) (fun e => hne e.symm) (.int .i64 0))
   have K2 := hHd (Kp.setCell (S := fun k => k = ge) (p := ⟨ge, 0, none⟩) (K1.out.mono (fun _ _ e => e.elim)) (.inr rfl) (.int .i64 0))
   have hrk := R1.out.kp_box (w' := w1.setCell ⟨ge, 0, none⟩ (.int .i64 0)) (Kp.one w1 ge 0 (.int .i64 0)) E1.out (by intro i u; cases i with | zero => simp | succ i => simp)
   have R2 := hHd hrk
   clear hrk
   go_upto_region 5 with fail
   generalize w1.setCell ⟨ge, 0, none⟩ (.int .i64 0) = w2 at *
   clear c0 f0
   go_wp2_with fail
   refine (headOf_any A 512 512 l at_ w2 R2.out (HT.out.kp K2.out (fun e => hge.symm e)) HL5.out (.inl rfl)).mono ?_
   rintro e w3 ⟨rfl, hk⟩
   have B3 := hHd (B2.out.kp hk (fun e => e))
   have E3 := hHd (E2.out.kp hk (fun e => e))
   have K3 := hHd (K2.out.trans (hk.mono (fun _ _ e => e.elim)))
   clear hk
   rcases hh : headS l with _ | h
   ·rw [headV_none hh]
    have HV := hHd (HTV.out.trans (headV_none hh))
    clear hh
    go_wp2_with (first | (refine wpList_store_box rfl 122 (.tmp 4) (.tmp 25) rfl w.heap.size [.int .u64 0, .int .u64 0, .int .i64 0, .string ⟨#[]⟩, .int .i64 0] rfl rfl B3.out rfl info_head z5_one ?_; intro W hb hk) | fail)
    have KF : Kp (fun k => k = ge) w W := K3.out.trans_new hk (fun b e => .inl (by omega))
    have EF := E3.out.kp hk (fun e => hne e)
    rw [HV.out, HI.out]
    refine bodyPost_ret (v := .tuple #[.agg #[.int .u64 0, .int .u64 0, .int .i64 0, .string ⟨#[]⟩, .int .i64 0], .bool false]) ?_ rfl ⟨rfl, EF, KF⟩
    exact results_two tell_results _ _ w.heap.size 122 _ (0, 0) _ rfl hb Tryz.underlying122 rfl info_head
   ·rw [headV_some hh]
    have HV := hHd (HTV.out.trans (headV_some hh))
    clear hh
    go_wp2_with (first | (refine wpList_store_box rfl 122 (.tmp 4) (.tmp 25) rfl w.heap.size (hcs h at_) rfl rfl B3.out rfl info_head (hcs_one h at_) ?_; intro W hb hk) | fail)
    have KF : Kp (fun k => k = ge) w W := K3.out.trans_new hk (fun b e => .inl (by omega))
    have EF := E3.out.kp hk (fun e => hne e)
    rw [HV.out, HI.out]
    refine bodyPost_ret (v := .tuple #[.agg (hcs h at_).toArray, .bool true]) ?_ rfl ⟨rfl, EF, KF⟩
    exact results_two tell_results _ _ w.heap.size 122 _ (0, 0) _ rfl hb Tryz.underlying122 rfl info_head
 ·have hd1 : decide (d.on.length <= at_) = true := by simp; omega
  have hl : (if d.power then d.nowAt at_ else []) = [] := by split <;> simp [nowAt_far ok at_ (by omega)]
  have HV := hHd (show tellV d at_ = .tuple #[.agg #[.int .u64 0, .int .u64 0, .int .i64 0, .string ⟨#[]⟩, .int .i64 0], .bool false] by rw [tellV, hl]; exact headV_none headS_nil)
  have HI := hHd (show tellE d at_ = 0 by simp [tellE, hlt])
  clear ok hl hlt
  have B0 := hHd (Box.new w 122 #[.int .u64 0, .int .u64 0, .int .i64 0, .string ⟨#[]⟩, .int .i64 0])
  have K0 := hHd ((Kp.refl (fun _ => False) w).alloc (.cells #[.int .u64 0, .int .u64 0, .int .i64 0, .string ⟨#[]⟩, .int .i64 0] 122))
  have E0 := hHd (he.alloc (.cells #[.int .u64 0, .int .u64 0, .int .i64 0, .string ⟨#[]⟩, .int .i64 0] 122))
  have P0 := hHd (hp.alloc (.cells #[.int .u64 0, .int .u64 0, .int .i64 0, .string ⟨#[]⟩, .int .i64 0] 122))
  have D0 := hHd (hD.still ((Kp.refl (fun _ => False) w).alloc (.cells #[.int .u64 0, .int .u64 0, .int .i64 0, .string ⟨#[]⟩, .int .i64 0] 122)))
  have hne : ge ≠ w.heap.size := by have := he.lt; omega
  have HT := hHd ht
  clear hD ht he hp
  go_enter Tryz.func133, Tryz.ntmps133
  go_upto_region 1 with fail
  generalize w.alloc (.cells #[.int .u64 0, .int .u64 0, .int .i64 0, .string ⟨#[]⟩, .int .i64 0] 122) = w0 at *
  have c0 := E0.out.cell 0
  have p0 := P0.out.cell 0
  simp at c0 p0
  go_wp2_with fail
  refine (len_any D0.out).mono ?_
  rintro e w1 ⟨rfl, rfl⟩
  go_wp2_with (first | (refine wpList_store_box rfl 122 (.tmp 4) (.tmp 15) rfl w.heap.size [.int .u64 0, .int .u64 0, .int .i64 0, .string ⟨#[]⟩, .int .i64 0] rfl rfl B0.out rfl info_head z5_one ?_; intro W hb hk) | fail)
  have KF : Kp (fun k => k = ge) w W := (K0.out.mono (fun _ _ e => e.elim)).trans_new hk (fun b e => .inl (by omega))
  have EF := E0.out.kp hk (fun e => hne e)
  rw [HV.out, HI.out]
  refine bodyPost_ret (v := .tuple #[.agg #[.int .u64 0, .int .u64 0, .int .i64 0, .string ⟨#[]⟩, .int .i64 0], .bool false]) ?_ rfl ⟨rfl, EF, KF⟩
  exact results_two tell_results _ _ w.heap.size 122 _ (0, 0) _ rfl hb Tryz.underlying122 rfl info_head
theorem tell_failed (ge gp : Nat) (he : Box w ge 32 #[.int .i64 4]) (at_ : Nat) :
  Calls Tryz.prog 133 #[.int .i64 at_, .pointer (some ⟨ge, 0, none⟩), .pointer (some ⟨gp, 0, none⟩)] w fun e w' => e = .returned (.tuple #[.agg #[.int .u64 0, .int .u64 0, .int .i64 0, .string ⟨#[]⟩, .int .i64 0], .bool false]) /\ Kp (fun _ => False) w w' := by
 have B0 := hHd (Box.new w 122 #[.int .u64 0, .int .u64 0, .int .i64 0, .string ⟨#[]⟩, .int .i64 0])
 have K0 := hHd ((Kp.refl (fun _ => False) w).alloc (.cells #[.int .u64 0, .int .u64 0, .int .i64 0, .string ⟨#[]⟩, .int .i64 0] 122))
 have E0 := hHd (he.alloc (.cells #[.int .u64 0, .int .u64 0, .int .i64 0, .string ⟨#[]⟩, .int .i64 0] 122))
 clear he
 go_enter Tryz.func133, Tryz.ntmps133
 go_upto_region 1 with fail
 generalize w.alloc (.cells #[.int .u64 0, .int .u64 0, .int .i64 0, .string ⟨#[]⟩, .int .i64 0] 122) = w0 at *
 have c0 := E0.out.cell 0
 simp at c0
 go_wp2_with (first | (refine wpList_store_box rfl 122 (.tmp 4) (.tmp 15) rfl w.heap.size [.int .u64 0, .int .u64 0, .int .i64 0, .string ⟨#[]⟩, .int .i64 0] rfl rfl B0.out rfl info_head z5_one ?_; intro W hb hk) | fail)
 have KF : Kp (fun _ => False) w W := K0.out.trans_new hk (fun b e => .inl (by omega))
 refine bodyPost_ret (v := .tuple #[.agg #[.int .u64 0, .int .u64 0, .int .i64 0, .string ⟨#[]⟩, .int .i64 0], .bool false]) ?_ rfl ⟨rfl, KF⟩
 exact results_two tell_results _ _ w.heap.size 122 _ (0, 0) _ rfl hb Tryz.underlying122 rfl info_head
end
end Go.Proofs.YtepaeliamhjgiaaGreatDoor
namespace Go.Proofs.YtepaeliamhjgiaaGreatDoor
open Go.RowKit Go.Maps
def RdR (w : World) (t : TypeId) (size : Nat) (v : Value) (n : Nat) (xs : List Value) : Prop :=
 xs.length = n * size /\ ∃ A cap, v = .slice A n cap /\ n <= cap /\ (n = 0 \/ ∃ (b : Nat) (cur : Array Value), A = some ⟨b, 0, none⟩ /\ Box w b t cur /\ ∀ (j : Nat) (x : Value), xs[j]? = some x -> cur[j]? = some x)
theorem RdR.nil (w : World) (t : TypeId) (size : Nat) : RdR w t size (.slice none 0 0) 0 [] := ⟨by simp, none, 0, rfl, Nat.le_refl _, .inl rfl⟩
theorem RdR.of_own {w : World} {base : Nat} {t : TypeId} {size n : Nat} {v : Value} {xs : List Value} (h : w.ownsRow base t size v n xs) : RdR w t size v n xs := by
 refine ⟨h.1, ?_⟩
 rcases h.2 with ⟨rfl, rfl⟩ | ⟨g, cap, cur, rfl, _, hg, hnc, _, hsz, ht⟩
 ·exact ⟨none, 0, rfl, Nat.le_refl _, .inl rfl⟩
 ·refine ⟨_, cap, rfl, hnc, .inr ⟨g, cur, rfl, hg, fun j x hx => ?_⟩⟩
  rw [<- ht, List.getElem?_take] at hx
  split at hx
  ·simpa using hx
  ·cases hx
theorem RdR.kp {S : Nat -> Prop} {w w' : World} {t : TypeId} {size n : Nat} {v : Value} {xs : List Value} (h : RdR w t size v n xs) (hk : Kp S w w') (hn : ∀ k cs fr, w.heap[k]? = some (.cells cs t fr) -> ¬ S k) : RdR w' t size v n xs := by
 obtain ⟨h1, A, cap, hv, hc, h2⟩ := h
 refine ⟨h1, A, cap, hv, hc, ?_⟩
 rcases h2 with h2 | ⟨b, cur, hA, hb, hx⟩
 ·exact .inl h2
 ·exact .inr ⟨b, cur, hA, hb.kp hk (hn b _ _ hb), hx⟩
theorem RdR.cell {w : World} {t : TypeId} {size n : Nat} {v : Value} {xs : List Value} (h : RdR w t size v n xs) (hn : 0 < n) : ∃ b cap, v = .slice (some ⟨b, 0, none⟩) n cap /\ n <= cap /\ ∀ j x, xs[j]? = some x -> w.cell? ⟨b, j, none⟩ = some x := by
 obtain ⟨_, A, cap, hv, hc, h2⟩ := h
 rcases h2 with h2 | ⟨b, cur, rfl, hb, hx⟩
 ·omega
 ·exact ⟨b, cap, hv, hc, fun j x hj => by rw [hb.cell]; exact hx j x hj⟩
theorem strs_one (l : List (List UInt8)) : ∀ u ∈ strs l, u.oneCell' = true := fun u hu => by
 obtain ⟨_, _, rfl⟩ := List.mem_map.1 hu
 rfl
theorem strInf : ∃ i, Tryz.prog.info? 9 = some i /\ i.zero = some (.string ⟨#[]⟩) /\ i.size = 1 /\ i.bytes = 16 := by
 have h : (Tryz.prog.info? 9).map (fun i => (i.zero, i.size, i.bytes)) = some (some (.string ⟨#[]⟩), 1, 16) := by kernel_rfl
 obtain ⟨i, h1, h2, h3, h4⟩ := info_parts h
 exact ⟨i, h1, h2, h3, h4⟩
theorem own_ne {w : World} {B : Nat} {e t : TypeId} {n g k cp : Nat} {xs : List Value} {cs : Array Value} (h : w.ownsRow B e 1 (.slice (some ⟨g, 0, none⟩) n cp) n xs) (hb : Box w k t cs) (hne : e ≠ t) : ¬ g = k := by
 rintro rfl
 obtain ⟨cur, hc⟩ := own_block h rfl
 exact Box.type_ne (t := e) hc hb hne rfl
theorem dwp_store_box {P : Program} {op : Oper} {a : Act} {w : World} {K : Act -> World -> Prop} {Q : Exit -> Act -> World -> Prop} (ty : TypeId) (x y : Operand) (ho : op.op = .store ty x y)
  (g : Nat) (cs : List Value) (hx : a.eval x = .pointer (some ⟨g, 0, none⟩)) (hy : a.eval y = .agg cs.toArray) {t : TypeId} {old : Array Value} (hb : Box w g t old) (hs : old.size = cs.length)
  (hi : (P.info? ty).map (·.size) = some cs.length) (h1 : ∀ v ∈ cs, v.oneCell' = true)
  (h : ∀ W, Box W g t cs.toArray -> Kp (fun k => k = g) w W -> K (a.put op.dst undef) W) : op.wp P a w K Q := by
 have hb' : Box w g t old.toList.toArray := hb
 refine wp_store_mid ty x y ho g 0 cs.toArray hx hy ?_ (by simpa using hi) (all_oneCell_toArray h1) ?_
 ·have := hb'.there
  simp only [List.size_toArray, Array.length_toList] at this ⊢
  rw [<- hs]
  exact this
 ·refine h _ ?_ (Kp.setCells _ 0 w (Kp.refl _ w) (.inr rfl))
  exact hb'.write (by simpa using hs.symm)
end Go.Proofs.YtepaeliamhjgiaaGreatDoor
