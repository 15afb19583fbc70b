/- What a sector is: now, and on the disk. No condition but the disk's own. -/
import Derived.Test.YtfcljcikajaedaaDoorMg21
namespace Go.Proofs.YtfcljcikajaedaaDoor
open Go.RowKit Go.Maps

theorem wf_i64 (a : Nat) (h : a < 9223372036854775808) : (Lit.int .i64 (a : Int)).wf = true := by
  have hmin : IntKind.i64.min = -9223372036854775808 := rfl
  have hmax : IntKind.i64.max = 9223372036854775807 := rfl
  simp only [Lit.wf, Bool.and_eq_true, decide_eq_true_eq]
  omega
theorem wpList_newest {w : World} {ops : Array Oper} {rest : List Oper} {o : Oper} {a : Act} {Q : Exit → Act → World → Prop} (hg : o.guard = none) (m x : Operand)
    (hop : o.op = Op.lookup 57 m x true) (g : Nat) (l : List (Nat × List UInt8)) (hm : a.eval m = .map (some g)) (h : Nm w g l) (at_ : Nat) (hat : at_ < 9223372036854775808) (hx : a.eval x = .int .i64 at_)
    (hn : lastOf l at_ = none → ∀ c : Int, wpList Tryd.prog ops Q rest (a.put o.dst (.tuple #[.int .i64 c, .bool false])) w)
    (hs : ∀ i, lastOf l at_ = some i → wpList Tryd.prog ops Q rest (a.put o.dst (.tuple #[.int .i64 i, .bool true])) w) :
    wpList Tryd.prog ops Q (o :: rest) a w := by
  obtain ⟨n, D, ho, _, hD⟩ := h
  obtain ⟨h1, h2⟩ := hD at_
  refine wpList_lookup_own_ok_int w hg m x _ hop 3 3 .i64 keyedI Tryd.underlying57 Tryd.underlying3 (zeroI w) g n D hm ho _ (.int .i64 at_) hx (keyOf_int_mk Tryd.underlying3 (wf_i64 at_ hat)) ?_
  intro c hc _
  rw [h1]
  cases hl : lastOf l at_ with
  | none => exact hn hl c
  | some i =>
    rw [h2 i hl] at hc
    injection hc with hc
    injection hc with _ hc
    rw [← hc]
    exact hs i hl
theorem wpList_newest_none {w : World} {ops : Array Oper} {rest : List Oper} {o : Oper} {a : Act} {Q : Exit → Act → World → Prop} (hg : o.guard = none) (m x : Operand)
    (hop : o.op = Op.lookup 57 m x true) (g : Nat) (l : List (Nat × List UInt8)) (hm : a.eval m = .map (some g)) (h : Nm w g l) (at_ : Nat) (hat : at_ < 9223372036854775808) (hx : a.eval x = .int .i64 at_)
    (hl : lastOf l at_ = none) (hn : ∀ c : Int, wpList Tryd.prog ops Q rest (a.put o.dst (.tuple #[.int .i64 c, .bool false])) w) :
    wpList Tryd.prog ops Q (o :: rest) a w := wpList_newest hg m x hop g l hm h at_ hat hx (fun _ => hn) (fun i hi => by rw [hl] at hi; cases hi)
theorem wpList_newest_some {w : World} {ops : Array Oper} {rest : List Oper} {o : Oper} {a : Act} {Q : Exit → Act → World → Prop} (hg : o.guard = none) (m x : Operand)
    (hop : o.op = Op.lookup 57 m x true) (g : Nat) (l : List (Nat × List UInt8)) (hm : a.eval m = .map (some g)) (h : Nm w g l) (at_ : Nat) (hat : at_ < 9223372036854775808) (hx : a.eval x = .int .i64 at_)
    (i : Nat) (hl : lastOf l at_ = some i) (hn : wpList Tryd.prog ops Q rest (a.put o.dst (.tuple #[.int .i64 i, .bool true])) w) :
    wpList Tryd.prog ops Q (o :: rest) a w := wpList_newest hg m x hop g l hm h at_ hat hx (fun hi => by rw [hl] at hi; cases hi) (fun j hj => by rw [hl] at hj; cases hj; exact hn)
/-- What a sector is now. -/
def Dm.nowAt (d : Dm) (a : Nat) : List UInt8 := match lastOf d.wait a with | some i => (d.wait.getD i (0, [])).2 | none => d.on.getD a []
def Dm.rawAt (d : Dm) (a : Nat) : List UInt8 := d.on.getD a []
theorem rawAt_length {d : Dm} (ok : d.ok) (a : Nat) (h : a < d.on.length) : (d.rawAt a).length = 512 := by
  have e : d.rawAt a = d.on[a] := by simp [Dm.rawAt, h]
  rw [e]
  exact ok.each _ (List.getElem_mem _)
theorem nowAt_length {d : Dm} (ok : d.ok) (a : Nat) (h : a < d.on.length) : (d.nowAt a).length = 512 := by
  unfold Dm.nowAt
  cases hl : lastOf d.wait a with
  | none => exact rawAt_length ok a h
  | some i =>
    obtain ⟨b, hb⟩ := lastOf_get d.wait a i hl
    have e : d.wait.getD i (0, []) = (a, b) := by simp [List.getD, hb]
    dsimp only
    rw [e]
    exact ok.long _ (List.mem_of_getElem? hb)
section
variable {w : World} {b : Nat} {vs vw : Value} {gm : Nat} {d : Dm} {F : Nat → Prop}
theorem sec_range {gs cap : Nat} (h : Dk w b (.slice (some ⟨gs, 0, none⟩) d.on.length cap) vw gm d) (a : Nat) (ha : a < d.on.length) : w.rangeAt gs (a * 512) (bcs (d.rawAt a)) :=
  own_range h.st _ fun j v hj => onCells_get _ h.ok.each a (d.rawAt a) (by simp [Dm.rawAt, ha]) j v hj
theorem wr_range {gw cap : Nat} (h : Dk w b vs (.slice (some ⟨gw, 0, none⟩) d.wait.length cap) gm d) (i : Nat) (x : Nat × List UInt8) (hi : d.wait[i]? = some x) : w.rangeAt gw (i * 513) (bcs x.2) :=
  own_range h.wt _ fun j v hj => waitCells_get _ h.ok.long i x hi j v (by
    have := (List.getElem?_eq_some_iff.1 hj).1
    rw [wrCells, List.getElem?_append_left this]
    exact hj)
set_option maxHeartbeats 1000000 in
theorem read_dead (hD : Dsk F w b d) (a : Int) (hp : d.power = false) :
    Calls Tryd.prog 27 #[.pointer (some ⟨b, 0, none⟩), .int .i64 a] w fun e w' => e = .returned (.tuple #[.slice none 0 0, .int .i64 4]) ∧ Kp (fun _ => False) w w' := by
  obtain ⟨vs, vw, gm, h, hsub⟩ := hD
  have h2 : Dk ((w.alloc (.cells #[.int .i64 a] 3)).alloc (.cells #[.func (.func 39) #[] #[], .func (.func 62) #[] #[.pointer (some ⟨w.heap.size, 0, none⟩)]] 88)) b vs vw gm d := (h.alloc _).alloc _
  have hba := (Box.new w 3 #[.int .i64 a]).alloc (.cells #[.func (.func 39) #[] #[], .func (.func 62) #[] #[.pointer (some ⟨w.heap.size, 0, none⟩)]] 88)
  have hbn := Box.new (w.alloc (.cells #[.int .i64 a] 3)) 88 #[.func (.func 39) #[] #[], .func (.func 62) #[] #[.pointer (some ⟨w.heap.size, 0, none⟩)]]
  rw [World.size_alloc] at hbn
  have ka : Kp (fun _ => False) w ((w.alloc (.cells #[.int .i64 a] 3)).alloc (.cells #[.func (.func 39) #[] #[], .func (.func 62) #[] #[.pointer (some ⟨w.heap.size, 0, none⟩)]] 88)) := ((Kp.refl _ w).alloc _).alloc _
  have kk := ask_ps_1 h2 a w.heap.size (hba.cell 0) (w.heap.size + 1) 2 (hbn.cell 0) (hbn.cell 1) hp
  have KA := Lib.hid ka
  clear hp h2 hbn hba h ka
  go_enter Tryd.func27, Tryd.ntmps27
  go_wp2_with fail
  refine (sectorIs_any _ _).mono ?_
  rintro e w1 ⟨rfl, rfl⟩
  go_wp2_with fail
  refine kk.mono ?_
  rintro e w1 ⟨rfl, rfl⟩
  clear kk
  go_wp2_with fail
  go_ret2
  exact ⟨rfl, KA.out⟩
set_option maxHeartbeats 1000000 in
theorem read_arg (hD : Dsk F w b d) (a : Int) (hp : d.power = true) (hs : secB d a = false) :
    Calls Tryd.prog 27 #[.pointer (some ⟨b, 0, none⟩), .int .i64 a] w fun e w' => e = .returned (.tuple #[.slice none 0 0, .int .i64 2]) ∧ Kp (fun _ => False) w w' := by
  obtain ⟨vs, vw, gm, h, hsub⟩ := hD
  have h2 : Dk ((w.alloc (.cells #[.int .i64 a] 3)).alloc (.cells #[.func (.func 39) #[] #[], .func (.func 62) #[] #[.pointer (some ⟨w.heap.size, 0, none⟩)]] 88)) b vs vw gm d := (h.alloc _).alloc _
  have hba := (Box.new w 3 #[.int .i64 a]).alloc (.cells #[.func (.func 39) #[] #[], .func (.func 62) #[] #[.pointer (some ⟨w.heap.size, 0, none⟩)]] 88)
  have hbn := Box.new (w.alloc (.cells #[.int .i64 a] 3)) 88 #[.func (.func 39) #[] #[], .func (.func 62) #[] #[.pointer (some ⟨w.heap.size, 0, none⟩)]]
  rw [World.size_alloc] at hbn
  have ka : Kp (fun _ => False) w ((w.alloc (.cells #[.int .i64 a] 3)).alloc (.cells #[.func (.func 39) #[] #[], .func (.func 62) #[] #[.pointer (some ⟨w.heap.size, 0, none⟩)]] 88)) := ((Kp.refl _ w).alloc _).alloc _
  have kk := ask_ps_01 h2 a w.heap.size (hba.cell 0) (w.heap.size + 1) 2 (hbn.cell 0) (hbn.cell 1) hp hs
  have KA := Lib.hid ka
  clear hp hs h2 hbn hba h ka
  go_enter Tryd.func27, Tryd.ntmps27
  go_wp2_with fail
  refine (sectorIs_any _ _).mono ?_
  rintro e w1 ⟨rfl, rfl⟩
  go_wp2_with fail
  refine kk.mono ?_
  rintro e w1 ⟨rfl, n, rfl⟩
  clear kk
  go_wp2_with fail
  go_ret2
  exact ⟨rfl, KA.out.drewN n⟩
set_option maxRecDepth 100000 in
set_option maxHeartbeats 2000000 in
theorem read_ok (hD : Dsk F w b d) (a : Nat) (hp : d.power = true) (hs : a < d.on.length) :
    Calls Tryd.prog 27 #[.pointer (some ⟨b, 0, none⟩), .int .i64 a] w fun e w' => ∃ g, e = .returned (.tuple #[.slice (some ⟨g, 0, none⟩) 512 512, .int .i64 0]) ∧ Box w' g 91 (bcs (d.nowAt a)).toArray ∧ w.heap.size ≤ g ∧ Kp (fun _ => False) w w' := by
  obtain ⟨vs, vw, gm, h, hsub⟩ := hD
  obtain ⟨gs, cap, rfl, _, _⟩ := h.st_form
  obtain ⟨aw, capw, rfl, hcw⟩ := h.wt_form
  obtain ⟨zs, zs1, zs2, zs3, zs4⟩ := zeroSec
  have h2 : Dk ((w.alloc (.cells #[.int .i64 a] 3)).alloc (.cells #[.func (.func 39) #[] #[], .func (.func 62) #[] #[.pointer (some ⟨w.heap.size, 0, none⟩)]] 88)) b (.slice (some ⟨gs, 0, none⟩) d.on.length cap) (.slice aw d.wait.length capw) gm d := (h.alloc _).alloc _
  have hba := (Box.new w 3 #[.int .i64 a]).alloc (.cells #[.func (.func 39) #[] #[], .func (.func 62) #[] #[.pointer (some ⟨w.heap.size, 0, none⟩)]] 88)
  have hbn := Box.new (w.alloc (.cells #[.int .i64 a] 3)) 88 #[.func (.func 39) #[] #[], .func (.func 62) #[] #[.pointer (some ⟨w.heap.size, 0, none⟩)]]
  rw [World.size_alloc] at hbn
  have ka : Kp (fun _ => False) w ((w.alloc (.cells #[.int .i64 a] 3)).alloc (.cells #[.func (.func 39) #[] #[], .func (.func 62) #[] #[.pointer (some ⟨w.heap.size, 0, none⟩)]] 88)) := ((Kp.refl _ w).alloc _).alloc _
  have kk := ask_ps_00 h2 a w.heap.size (hba.cell 0) (w.heap.size + 1) 2 (hbn.cell 0) (hbn.cell 1) hp (by simp [secB]; omega)
  have hlen := rawAt_length h.ok a hs
  have hfew := h.ok.few
  have hwl := h.ok.waits
  have KA := Lib.hid ka
  have H2 := Lib.hid h2
  have HL := Lib.hid hlen
  have hs' : (a : Int) < (d.on.length : Int) := by omega
  clear h2 hbn hba h ka hlen hp
  have hnow : d.nowAt a = match lastOf d.wait a with | some i => (d.wait.getD i (0, [])).2 | none => d.rawAt a := rfl
  cases hl : lastOf d.wait a with
  | none =>
    rw [hl] at hnow
    have HN := Lib.hid hnow
    have HLA := Lib.hid hl
    clear hnow hl
    go_enter Tryd.func27, Tryd.ntmps27
    go_wp2_with fail
    refine (sectorIs_any _ _).mono ?_
    rintro e w1 ⟨rfl, rfl⟩
    go_wp2_with fail
    refine kk.mono ?_
    rintro e w1 ⟨rfl, n, rfl⟩
    clear kk
    have H3 := Lib.hid (H2.out.drewN n)
    have K3 := Lib.hid (KA.out.drewN n)
    clear H2 KA
    generalize ((w.alloc (.cells #[.int .i64 a] 3)).alloc (.cells #[.func (.func 39) #[] #[], .func (.func 62) #[] #[.pointer (some ⟨w.heap.size, 0, none⟩)]] 88)).drewN n = W at *
    have e0 := H3.out.c0
    have R3 := Lib.hid (sec_range H3.out a hs)
    go_wp2_with (first | (refine wpList_load_mid rfl 91 (.tmp 23) rfl gs _ rfl (bcs (d.rawAt a)) _ R3.out Tryd.underlying91 rfl (by rw [bcs_length, HL.out]; exact zs3) ?_) | (refine dwpList_store_box rfl 91 (.tmp 7) (.tmp 24) rfl W.heap.size (bcs (d.rawAt a)) rfl rfl (Box.new _ _ _) (by rw [zs2, bcs_length, HL.out]) (by rw [bcs_length, HL.out]; exact zs3) (bcs_one _) ?_; intro w1 hb1 hk1; have k1 : Kp (fun _ => False) W w1 := ((Kp.refl _ W).alloc (.cells zs 91)).trans_new hk1 (fun k e => .inl (by omega)); have B1 := Lib.hid hb1; have K1 := Lib.hid k1; have e2 := (H3.out.still k1).c2; have HN1 := Lib.hid (H3.out.still k1).nm; clear hb1 hk1 k1) | (refine wpList_newest_none rfl (.tmp 29) (.tmp 30) rfl gm d.wait rfl HN1.out a (by omega) rfl HLA.out ?_; intro c) | fail)
    go_ret2
    refine ⟨W.heap.size, rfl, ?_, K3.out.size, K3.out.trans K1.out⟩
    rw [HN.out]
    exact B1.out
  | some i =>
    obtain ⟨x, hx⟩ := lastOf_get d.wait a i hl
    have hi : i < d.wait.length := (List.getElem?_eq_some_iff.1 hx).1
    have hgd : d.wait.getD i (0, []) = (a, x) := by simp [List.getD, hx]
    rw [hl] at hnow
    dsimp only at hnow
    rw [hgd] at hnow
    dsimp only at hnow
    have HN := Lib.hid hnow
    have HLA := Lib.hid hl
    have HX := Lib.hid hx
    have hxl := H2.out.ok.long _ (List.mem_of_getElem? hx)
    have HXL := Lib.hid (show x.length = 512 from hxl)
    have hi' : (i : Int) < (d.wait.length : Int) := by omega
    obtain ⟨gw, rfl⟩ : ∃ gw, aw = some ⟨gw, 0, none⟩ := by
      rcases H2.out.wt.2 with ⟨_, h1⟩ | ⟨g, cap, cur, hv, _⟩
      · omega
      · injection hv with hA; exact ⟨g, hA⟩
    clear hnow hl hx hgd hxl
    go_enter Tryd.func27, Tryd.ntmps27
    go_wp2_with fail
    refine (sectorIs_any _ _).mono ?_
    rintro e w1 ⟨rfl, rfl⟩
    go_wp2_with fail
    refine kk.mono ?_
    rintro e w1 ⟨rfl, n, rfl⟩
    clear kk
    have H3 := Lib.hid (H2.out.drewN n)
    have K3 := Lib.hid (KA.out.drewN n)
    clear H2 KA
    generalize ((w.alloc (.cells #[.int .i64 a] 3)).alloc (.cells #[.func (.func 39) #[] #[], .func (.func 62) #[] #[.pointer (some ⟨w.heap.size, 0, none⟩)]] 88)).drewN n = W at *
    have e0 := H3.out.c0
    have R3 := Lib.hid (sec_range H3.out a hs)
    go_wp2_with (first | (refine wpList_load_mid rfl 91 (.tmp 23) rfl gs _ rfl (bcs (d.rawAt a)) _ R3.out Tryd.underlying91 rfl (by rw [bcs_length, HL.out]; exact zs3) ?_) | (refine dwpList_store_box rfl 91 (.tmp 7) (.tmp 24) rfl W.heap.size (bcs (d.rawAt a)) rfl rfl (Box.new _ _ _) (by rw [zs2, bcs_length, HL.out]) (by rw [bcs_length, HL.out]; exact zs3) (bcs_one _) ?_; intro w1 hb1 hk1; have k1 : Kp (fun _ => False) W w1 := ((Kp.refl _ W).alloc (.cells zs 91)).trans_new hk1 (fun k e => .inl (by omega)); have B1 := Lib.hid hb1; have K1 := Lib.hid k1; have hh := H3.out.still k1; have e1 := hh.c1; have e2 := hh.c2; have HN1 := Lib.hid hh.nm; have R4 := Lib.hid (wr_range hh i (a, x) HX.out); clear hb1 hk1 k1 hh) | (refine wpList_newest_some rfl (.tmp 29) (.tmp 30) rfl gm d.wait rfl HN1.out a (by omega) rfl i HLA.out ?_) | (refine wpList_load_mid rfl 91 (.tmp 41) rfl gw _ rfl (bcs x) _ R4.out Tryd.underlying91 rfl (by rw [bcs_length, HXL.out]; exact zs3) ?_) | (refine dwpList_store_box rfl 91 (.tmp 7) (.tmp 42) rfl W.heap.size (bcs x) rfl rfl B1.out (by simp [bcs_length, HL.out, HXL.out]) (by rw [bcs_length, HXL.out]; exact zs3) (bcs_one _) ?_; intro w2 hb2 hk2; have B2 := Lib.hid hb2; have K2 := Lib.hid hk2; clear hb2 hk2) | fail)
    go_ret2
    refine ⟨W.heap.size, rfl, ?_, K3.out.size, (K3.out.trans K1.out).trans_new K2.out (fun k e => .inl (by have := K3.out.size; omega))⟩
    rw [HN.out]
    exact B2.out
end
end Go.Proofs.YtfcljcikajaedaaDoor
