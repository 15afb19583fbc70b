/- The law of pages, part 5 of 55: DkRead Tk. -/
import Derived.Test.YtepaeliamhjgiaaGreatDoorMu4
import Derived.Test.YtepaeliamhjgiaaGreatDoorMu1
import Derived.Test.YtepaeliamhjgiaaGreatDoorChecked
import Derived.Deep.RegionHeld3
import Derived.IntWalk
set_option maxHeartbeats 16000000
set_option maxRecDepth 100000
namespace Go.Proofs.YtepaeliamhjgiaaGreatDoor
open Go.RowKit Go.Maps
theorem wf_i64 (a : Nat) (h : a < 9223372036854775808) : (Lit.int .i64 (a : Int)).wf = true := by
 have hmin : IntKind.i64.min = -9223372036854775808 := rfl
 have hmax : IntKind.i64.max = 9223372036854775807 := rfl
 simp only [Lit.wf, Bool.and_eq_true, decide_eq_true_eq]
 omega
theorem wpList_newest {w : World} {ops : Array Oper} {rest : List Oper} {o : Oper} {a : Act} {Q : Exit -> Act -> World -> Prop} (hg : o.guard = none) (m x : Operand)
  (hop : o.op = Op.lookup 92 m x true) (g : Nat) (l : List (Nat × List UInt8)) (hm : a.eval m = .map (some g)) (h : Nm w g l) (at_ : Nat) (hat : at_ < 9223372036854775808) (hx : a.eval x = .int .i64 at_)
  (hn : lastOf l at_ = none -> ∀ c : Int, wpList Tryz.prog ops Q rest (a.put o.dst (.tuple #[.int .i64 c, .bool false])) w)
  (hs : ∀ i, lastOf l at_ = some i -> wpList Tryz.prog ops Q rest (a.put o.dst (.tuple #[.int .i64 i, .bool true])) w) :
  wpList Tryz.prog ops Q (o :: rest) a w := by
 obtain ⟨n, D, ho, _, hD⟩ := h
 obtain ⟨h1, h2⟩ := hD at_
 refine wpList_lookup_own_ok_int w hg m x _ hop 3 3 .i64 keyedI Tryz.underlying92 Tryz.underlying3 (zeroI w) g n D hm ho _ (.int .i64 at_) hx (keyOf_int_mk Tryz.underlying3 (wf_i64 at_ hat)) ?_
 intro c hc _
 rw [h1]
 cases hl : lastOf l at_ with
 |none => exact hn hl c
 |some i =>
  rw [h2 i hl] at hc
  injection hc with hc
  injection hc with _ hc
  rw [<- hc]
  exact hs i hl
theorem wpList_newest_none {w : World} {ops : Array Oper} {rest : List Oper} {o : Oper} {a : Act} {Q : Exit -> Act -> World -> Prop} (hg : o.guard = none) (m x : Operand)
  (hop : o.op = Op.lookup 92 m x true) (g : Nat) (l : List (Nat × List UInt8)) (hm : a.eval m = .map (some g)) (h : Nm w g l) (at_ : Nat) (hat : at_ < 9223372036854775808) (hx : a.eval x = .int .i64 at_)
  (hl : lastOf l at_ = none) (hn : ∀ c : Int, wpList Tryz.prog ops Q rest (a.put o.dst (.tuple #[.int .i64 c, .bool false])) w) :
  wpList Tryz.prog ops Q (o :: rest) a w := wpList_newest hg m x hop g l hm h at_ hat hx (fun _ => hn) (fun i hi => by rw [hl] at hi; cases hi)
theorem wpList_newest_some {w : World} {ops : Array Oper} {rest : List Oper} {o : Oper} {a : Act} {Q : Exit -> Act -> World -> Prop} (hg : o.guard = none) (m x : Operand)
  (hop : o.op = Op.lookup 92 m x true) (g : Nat) (l : List (Nat × List UInt8)) (hm : a.eval m = .map (some g)) (h : Nm w g l) (at_ : Nat) (hat : at_ < 9223372036854775808) (hx : a.eval x = .int .i64 at_)
  (i : Nat) (hl : lastOf l at_ = some i) (hn : wpList Tryz.prog ops Q rest (a.put o.dst (.tuple #[.int .i64 i, .bool true])) w) :
  wpList Tryz.prog ops Q (o :: rest) a w := wpList_newest hg m x hop g l hm h at_ hat hx (fun hi => by rw [hl] at hi; cases hi) (fun j hj => by rw [hl] at hj; cases hj; exact hn)
def Dm.nowAt (d : Dm) (a : Nat) : List UInt8 := match lastOf d.wait a with | some i => (d.wait.getD i (0, [])).2 | none => d.on.getD a []
def Dm.rawAt (d : Dm) (a : Nat) : List UInt8 := d.on.getD a []
theorem rawAt_length {d : Dm} (ok : d.ok) (a : Nat) (h : a < d.on.length) : (d.rawAt a).length = 512 := by
 have e : d.rawAt a = d.on[a] := by simp [Dm.rawAt, h]
 rw [e]
 exact ok.each _ (List.getElem_mem _)
theorem nowAt_length {d : Dm} (ok : d.ok) (a : Nat) (h : a < d.on.length) : (d.nowAt a).length = 512 := by
 unfold Dm.nowAt
 cases hl : lastOf d.wait a with
 |none => exact rawAt_length ok a h
 |some i =>
  obtain ⟨b, hb⟩ := lastOf_get d.wait a i hl
  have e : d.wait.getD i (0, []) = (a, b) := by simp [List.getD, hb]
  dsimp only
  rw [e]
  exact ok.long _ (List.mem_of_getElem? hb)
section
variable {w : World} {b : Nat} {vs vw : Value} {gm : Nat} {d : Dm} {F : Nat -> Prop}
theorem sec_range {gs cap : Nat} (h : Dk w b (.slice (some ⟨gs, 0, none⟩) d.on.length cap) vw gm d) (a : Nat) (ha : a < d.on.length) : w.rangeAt gs (a * 512) (bcs (d.rawAt a)) :=
 own_range h.st _ fun j v hj => onCells_get _ h.ok.each a (d.rawAt a) (by simp [Dm.rawAt, ha]) j v hj
theorem wr_range {gw cap : Nat} (h : Dk w b vs (.slice (some ⟨gw, 0, none⟩) d.wait.length cap) gm d) (i : Nat) (x : Nat × List UInt8) (hi : d.wait[i]? = some x) : w.rangeAt gw (i * 513) (bcs x.2) :=
 own_range h.wt _ fun j v hj => waitCells_get _ h.ok.long i x hi j v (by
  have := (List.getElem?_eq_some_iff.1 hj).1
  rw [wrCells, List.getElem?_append_left this]
  exact hj)
theorem read_dead (hD : Dsk F w b d) (a : Int) (hp : d.power = false) :
  Calls Tryz.prog 66 #[.pointer (some ⟨b, 0, none⟩), .int .i64 a] w fun e w' => e = .returned (.tuple #[.slice none 0 0, .int .i64 4]) /\ Kp (fun _ => False) w w' := by
 obtain ⟨vs, vw, gm, h, hsub⟩ := hD
 have h2 : Dk ((w.alloc (.cells #[.int .i64 a] 3)).alloc (.cells #[.func (.func 79) #[] #[], .func (.func 154) #[] #[.pointer (some ⟨w.heap.size, 0, none⟩)]] 116)) b vs vw gm d := (h.alloc _).alloc _
 have hba := (Box.new w 3 #[.int .i64 a]).alloc (.cells #[.func (.func 79) #[] #[], .func (.func 154) #[] #[.pointer (some ⟨w.heap.size, 0, none⟩)]] 116)
 have hbn := Box.new (w.alloc (.cells #[.int .i64 a] 3)) 116 #[.func (.func 79) #[] #[], .func (.func 154) #[] #[.pointer (some ⟨w.heap.size, 0, none⟩)]]
 rw [World.size_alloc] at hbn
 have ka : Kp (fun _ => False) w ((w.alloc (.cells #[.int .i64 a] 3)).alloc (.cells #[.func (.func 79) #[] #[], .func (.func 154) #[] #[.pointer (some ⟨w.heap.size, 0, none⟩)]] 116)) := ((Kp.refl _ w).alloc _).alloc _
 have kk := ask_ps_1 h2 a w.heap.size (hba.cell 0) (w.heap.size + 1) 2 (hbn.cell 0) (hbn.cell 1) hp
 have KA := hHd ka
 clear hp h2 hbn hba h ka
 go_enter Tryz.func66, Tryz.ntmps66
 go_wp2_with fail
 refine (sectorIs_any _ _).mono ?_
 rintro e w1 ⟨rfl, rfl⟩
 go_wp2_with fail
 refine kk.mono ?_
 rintro e w1 ⟨rfl, rfl⟩
 clear kk
 go_wp2_with fail
 go_ret2
 exact ⟨rfl, KA.out⟩
theorem read_arg (hD : Dsk F w b d) (a : Int) (hp : d.power = true) (hs : secB d a = false) :
  Calls Tryz.prog 66 #[.pointer (some ⟨b, 0, none⟩), .int .i64 a] w fun e w' => e = .returned (.tuple #[.slice none 0 0, .int .i64 2]) /\ Kp (fun _ => False) w w' := by
 obtain ⟨vs, vw, gm, h, hsub⟩ := hD
 have h2 : Dk ((w.alloc (.cells #[.int .i64 a] 3)).alloc (.cells #[.func (.func 79) #[] #[], .func (.func 154) #[] #[.pointer (some ⟨w.heap.size, 0, none⟩)]] 116)) b vs vw gm d := (h.alloc _).alloc _
 have hba := (Box.new w 3 #[.int .i64 a]).alloc (.cells #[.func (.func 79) #[] #[], .func (.func 154) #[] #[.pointer (some ⟨w.heap.size, 0, none⟩)]] 116)
 have hbn := Box.new (w.alloc (.cells #[.int .i64 a] 3)) 116 #[.func (.func 79) #[] #[], .func (.func 154) #[] #[.pointer (some ⟨w.heap.size, 0, none⟩)]]
 rw [World.size_alloc] at hbn
 have ka : Kp (fun _ => False) w ((w.alloc (.cells #[.int .i64 a] 3)).alloc (.cells #[.func (.func 79) #[] #[], .func (.func 154) #[] #[.pointer (some ⟨w.heap.size, 0, none⟩)]] 116)) := ((Kp.refl _ w).alloc _).alloc _
 have kk := ask_ps_01 h2 a w.heap.size (hba.cell 0) (w.heap.size + 1) 2 (hbn.cell 0) (hbn.cell 1) hp hs
 have KA := hHd ka
 clear hp hs h2 hbn hba h ka
 go_enter Tryz.func66, Tryz.ntmps66
 go_wp2_with fail
 refine (sectorIs_any _ _).mono ?_
 rintro e w1 ⟨rfl, rfl⟩
 go_wp2_with fail
 refine kk.mono ?_
 rintro e w1 ⟨rfl, n, rfl⟩
 clear kk
 go_wp2_with fail
 go_ret2
 exact ⟨rfl, KA.out.drewN n⟩
theorem read_ok (hD : Dsk F w b d) (a : Nat) (hp : d.power = true) (hs : a < d.on.length) :
  Calls Tryz.prog 66 #[.pointer (some ⟨b, 0, none⟩), .int .i64 a] w fun e w' => ∃ g, e = .returned (.tuple #[.slice (some ⟨g, 0, none⟩) 512 512, .int .i64 0]) /\ Box w' g 156 (bcs (d.nowAt a)).toArray /\ w.heap.size <= g /\ Kp (fun _ => False) w w' := by
 obtain ⟨vs, vw, gm, h, hsub⟩ := hD
 obtain ⟨gs, cap, rfl, _, _⟩ := h.st_form
 obtain ⟨aw, capw, rfl, hcw⟩ := h.wt_form
 obtain ⟨zs, zs1, zs2, zs3, zs4⟩ := zeroSec
 have h2 : Dk ((w.alloc (.cells #[.int .i64 a] 3)).alloc (.cells #[.func (.func 79) #[] #[], .func (.func 154) #[] #[.pointer (some ⟨w.heap.size, 0, none⟩)]] 116)) b (.slice (some ⟨gs, 0, none⟩) d.on.length cap) (.slice aw d.wait.length capw) gm d := (h.alloc _).alloc _
 have hba := (Box.new w 3 #[.int .i64 a]).alloc (.cells #[.func (.func 79) #[] #[], .func (.func 154) #[] #[.pointer (some ⟨w.heap.size, 0, none⟩)]] 116)
 have hbn := Box.new (w.alloc (.cells #[.int .i64 a] 3)) 116 #[.func (.func 79) #[] #[], .func (.func 154) #[] #[.pointer (some ⟨w.heap.size, 0, none⟩)]]
 rw [World.size_alloc] at hbn
 have ka : Kp (fun _ => False) w ((w.alloc (.cells #[.int .i64 a] 3)).alloc (.cells #[.func (.func 79) #[] #[], .func (.func 154) #[] #[.pointer (some ⟨w.heap.size, 0, none⟩)]] 116)) := ((Kp.refl _ w).alloc _).alloc _
 have kk := ask_ps_00 h2 a w.heap.size (hba.cell 0) (w.heap.size + 1) 2 (hbn.cell 0) (hbn.cell 1) hp (by simp [secB]; omega)
 have hlen := rawAt_length h.ok a hs
 have hfew := h.ok.few
 have hwl := h.ok.waits
 have KA := hHd ka
 have H2 := hHd h2
 have HL := hHd hlen
 have hs' : (a : Int) < (d.on.length : Int) := by omega
 clear h2 hbn hba h ka hlen hp
 have hnow : d.nowAt a = match lastOf d.wait a with | some i => (d.wait.getD i (0, [])).2 | none => d.rawAt a := rfl
 cases hl : lastOf d.wait a with
 |none =>
  rw [hl] at hnow
  have HN := hHd hnow
  have HLA := hHd hl
  clear hnow hl
  go_enter Tryz.func66, Tryz.ntmps66
  go_wp2_with fail
  refine (sectorIs_any _ _).mono ?_
  rintro e w1 ⟨rfl, rfl⟩
  go_wp2_with fail
  refine kk.mono ?_
  rintro e w1 ⟨rfl, n, rfl⟩
  clear kk
  have H3 := hHd (H2.out.drewN n)
  have K3 := hHd (KA.out.drewN n)
  clear H2 KA
  generalize ((w.alloc (.cells #[.int .i64 a] 3)).alloc (.cells #[.func (.func 79) #[] #[], .func (.func 154) #[] #[.pointer (some ⟨w.heap.size, 0, none⟩)]] 116)).drewN n = W at *
  have e0 := H3.out.c0
  have R3 := hHd (sec_range H3.out a hs)
  go_wp2_with (first | (refine wpList_load_mid rfl 156 (.tmp 23) rfl gs _ rfl (bcs (d.rawAt a)) _ R3.out Tryz.underlying156 rfl (by rw [bcs_length, HL.out]; exact zs3) ?_) | (refine dwpList_store_box rfl 156 (.tmp 7) (.tmp 24) rfl W.heap.size (bcs (d.rawAt a)) rfl rfl (Box.new _ _ _) (by rw [zs2, bcs_length, HL.out]) (by rw [bcs_length, HL.out]; exact zs3) (bcs_one _) ?_; intro w1 hb1 hk1; have k1 : Kp (fun _ => False) W w1 := ((Kp.refl _ W).alloc (.cells zs 156)).trans_new hk1 (fun k e => .inl (by omega)); have B1 := hHd hb1; have K1 := hHd k1; have e2 := (H3.out.still k1).c2; have HN1 := hHd (H3.out.still k1).nm; clear hb1 hk1 k1) | (refine wpList_newest_none rfl (.tmp 29) (.tmp 30) rfl gm d.wait rfl HN1.out a (by omega) rfl HLA.out ?_; intro c) | fail)
  go_ret2
  refine ⟨W.heap.size, rfl, ?_, K3.out.size, K3.out.trans K1.out⟩
  rw [HN.out]
  exact B1.out
 |some i =>
  obtain ⟨x, hx⟩ := lastOf_get d.wait a i hl
  have hi : i < d.wait.length := (List.getElem?_eq_some_iff.1 hx).1
  have hgd : d.wait.getD i (0, []) = (a, x) := by simp [List.getD, hx]
  rw [hl] at hnow
  dsimp only at hnow
  rw [hgd] at hnow
  dsimp only at hnow
  have HN := hHd hnow
  have HLA := hHd hl
  have HX := hHd hx
  have hxl := H2.out.ok.long _ (List.mem_of_getElem? hx)
  have HXL := hHd (show x.length = 512 from hxl)
  have hi' : (i : Int) < (d.wait.length : Int) := by omega
  obtain ⟨gw, rfl⟩ : ∃ gw, aw = some ⟨gw, 0, none⟩ := by
   rcases H2.out.wt.2 with ⟨_, h1⟩ | ⟨g, cap, cur, hv, _⟩
   ·omega
   ·injection hv with hA; exact ⟨g, hA⟩
  clear hnow hl hx hgd hxl
  go_enter Tryz.func66, Tryz.ntmps66
  go_wp2_with fail
  refine (sectorIs_any _ _).mono ?_
  rintro e w1 ⟨rfl, rfl⟩
  go_wp2_with fail
  refine kk.mono ?_
  rintro e w1 ⟨rfl, n, rfl⟩
  clear kk
  have H3 := hHd (H2.out.drewN n)
  have K3 := hHd (KA.out.drewN n)
  clear H2 KA
  generalize ((w.alloc (.cells #[.int .i64 a] 3)).alloc (.cells #[.func (.func 79) #[] #[], .func (.func 154) #[] #[.pointer (some ⟨w.heap.size, 0, none⟩)]] 116)).drewN n = W at *
  have e0 := H3.out.c0
  have R3 := hHd (sec_range H3.out a hs)
  go_wp2_with (first | (refine wpList_load_mid rfl 156 (.tmp 23) rfl gs _ rfl (bcs (d.rawAt a)) _ R3.out Tryz.underlying156 rfl (by rw [bcs_length, HL.out]; exact zs3) ?_) | (refine dwpList_store_box rfl 156 (.tmp 7) (.tmp 24) rfl W.heap.size (bcs (d.rawAt a)) rfl rfl (Box.new _ _ _) (by rw [zs2, bcs_length, HL.out]) (by rw [bcs_length, HL.out]; exact zs3) (bcs_one _) ?_; intro w1 hb1 hk1; have k1 : Kp (fun _ => False) W w1 := ((Kp.refl _ W).alloc (.cells zs 156)).trans_new hk1 (fun k e => .inl (by omega)); have B1 := hHd hb1; have K1 := hHd k1; have hh := H3.out.still k1; have e1 := hh.c1; have e2 := hh.c2; have HN1 := hHd hh.nm; have R4 := hHd (wr_range hh i (a, x) HX.out); clear hb1 hk1 k1 hh) | (refine wpList_newest_some rfl (.tmp 29) (.tmp 30) rfl gm d.wait rfl HN1.out a (by omega) rfl i HLA.out ?_) | (refine wpList_load_mid rfl 156 (.tmp 41) rfl gw _ rfl (bcs x) _ R4.out Tryz.underlying156 rfl (by rw [bcs_length, HXL.out]; exact zs3) ?_) | (refine dwpList_store_box rfl 156 (.tmp 7) (.tmp 42) rfl W.heap.size (bcs x) rfl rfl B1.out (by simp [bcs_length, HL.out, HXL.out]) (by rw [bcs_length, HXL.out]; exact zs3) (bcs_one _) ?_; intro w2 hb2 hk2; have B2 := hHd hb2; have K2 := hHd hk2; clear hb2 hk2) | fail)
  go_ret2
  refine ⟨W.heap.size, rfl, ?_, K3.out.size, (K3.out.trans K1.out).trans_new K2.out (fun k e => .inl (by have := K3.out.size; omega))⟩
  rw [HN.out]
  exact B2.out
end
end Go.Proofs.YtepaeliamhjgiaaGreatDoor
namespace Go.Proofs.YtepaeliamhjgiaaGreatDoor
open Go.RowKit
section
variable {P : Program} {ops : Array Oper} {Q : Exit -> Act -> World -> Prop} {md : Region.Mode} {S : World -> Prop}
theorem tk (i : Nat) {oi : Oper} {v : Value} {fuel : Nat} {listed listed' : Array Bool} {a a' : Act} {w : World}
  (hi : ops[i]? = some oi := by (simp only [List.getElem?_toArray, List.getElem?_cons_succ, List.getElem?_cons_zero]; exact rfl))
  (hy : ∀ w, S w -> (execOp a.eval oi).run P w = .ok (.value v) w := by (intro v hSw; (try dsimp only at hSw); go_simp; with_reducible rfl))
  (hs : Region.noSelect ops = true := by kernel_rfl) (hf : Region.free md ops listed i = true := by kernel_rfl) (hr : (Region.ready md ops listed).contains i = true := by kernel_rfl)
  (hQ : ∀ c a w, Q (.panic c) (a.put oi.dst v) w -> Q (.panic c) a w := by exact fun _ _ _ h => h) (hw : Region.wanted oi (yielded ops a.tmps) = true := by rfl) (hS : S w := by assumption)
  (ha : a.put oi.dst v = a' := by ((try simp only [Act.put, sIa, sI0, sI1]); exact rfl))
  (hl : listed.setIfInBounds i true = listed' := by ((try simp only [List.setIfInBounds_toArray, List.set_cons_zero, List.set_cons_succ]); exact rfl))
  (h : wpAnyH P md ops Q S fuel listed' a' w) : wpAnyH P md ops Q S (fuel + 1) listed a w :=
 wpAnyH_take hi hs hf hr hQ (.inl ⟨hw, hy⟩) hS (by rw [hl, ha]; exact h)
theorem sk (i : Nat) {oi : Oper} {fuel : Nat} {listed listed' : Array Bool} {a a' : Act} {w : World}
  (hi : ops[i]? = some oi := by (simp only [List.getElem?_toArray, List.getElem?_cons_succ, List.getElem?_cons_zero]; exact rfl))
  (hs : Region.noSelect ops = true := by kernel_rfl) (hf : Region.free md ops listed i = true := by kernel_rfl) (hr : (Region.ready md ops listed).contains i = true := by kernel_rfl)
  (hQ : ∀ c a w, Q (.panic c) (a.put oi.dst undef) w -> Q (.panic c) a w := by exact fun _ _ _ h => h) (hw : Region.wanted oi (yielded ops a.tmps) = false := by rfl) (hS : S w := by assumption)
  (ha : a.put oi.dst undef = a' := by ((try simp only [Act.put, sIa, sI0, sI1]); exact rfl))
  (hl : listed.setIfInBounds i true = listed' := by ((try simp only [List.setIfInBounds_toArray, List.set_cons_zero, List.set_cons_succ]); exact rfl))
  (h : wpAnyH P md ops Q S fuel listed' a' w) : wpAnyH P md ops Q S (fuel + 1) listed a w :=
 wpAnyH_take hi hs hf hr hQ (.inr ⟨hw, rfl⟩) hS (by rw [hl, ha]; exact h)
theorem rd (i : Nat) {o : Oper} {fuel : Nat} {listed : Array Bool} {a : Act} {w : World}
  (ho : ops[i]? = some o := by (simp only [List.getElem?_toArray, List.getElem?_cons_succ, List.getElem?_cons_zero]; exact rfl))
  (hr : Region.ready md ops listed = [i] := by kernel_rfl)
  (h : ∀ K' : Act -> World -> Prop, Shut (∀ a w, S w -> (S w -> wpAnyH P md ops Q S fuel (listed.setIfInBounds i true) a w) -> K' a w) -> if Region.wanted o (yielded ops a.tmps) = true then Oper.wp P o a w K' Q else K' (a.put o.dst undef) w) :
  wpAnyH P md ops Q S (fuel + 1) listed a w :=
 wpAnyH_ready hr (by simp) (AllReadyH.cons ho h AllReadyH.nil)
theorem rdc (i : Nat) {o : Oper} {rs : List Nat} {fuel : Nat} {listed : Array Bool} {a : Act} {w : World}
  (ho : ops[i]? = some o := by (simp only [List.getElem?_toArray, List.getElem?_cons_succ, List.getElem?_cons_zero]; exact rfl))
  (h : ∀ K' : Act -> World -> Prop, Shut (∀ a w, S w -> (S w -> wpAnyH P md ops Q S fuel (listed.setIfInBounds i true) a w) -> K' a w) -> if Region.wanted o (yielded ops a.tmps) = true then Oper.wp P o a w K' Q else K' (a.put o.dst undef) w)
  (hs : AllReadyH P md ops Q S fuel listed a w rs) : AllReadyH P md ops Q S fuel listed a w (i :: rs) := AllReadyH.cons ho h hs
end
end Go.Proofs.YtepaeliamhjgiaaGreatDoor
