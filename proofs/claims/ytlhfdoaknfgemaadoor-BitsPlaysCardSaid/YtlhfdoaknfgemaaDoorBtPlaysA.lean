/- The law BitsPlays, where there is no map: whatever the number and the acts, it answers true, and nothing that was there is turned. Condition: the table of the lowest bit reads as the program's text lays it. -/
import Derived.Test.YtlhfdoaknfgemaaDoorBtFinds
import Derived.Test.YtlhfdoaknfgemaaDoorBtSame
import Derived.Test.YtlhfdoaknfgemaaDoorBtRefT
import Derived.Deep.RegionHeld3
namespace Go.Proofs.YtlhfdoaknfgemaaDoor
open Go.RowKit

theorem bwp_store_box {P : Program} {op : Oper} {a : Act} {w : World} {K : Act → World → Prop} {Q : Exit → Act → World → Prop} (ty : TypeId) (x y : Operand) (ho : op.op = .store ty x y)
    (g : Nat) (cs : List Value) (hx : a.eval x = .pointer (some ⟨g, 0, none⟩)) (hy : a.eval y = .agg cs.toArray) {t : TypeId} {old : Array Value} (hb : Box w g t old) (hs : old.size = cs.length)
    (hi : (P.info? ty).map (·.size) = some cs.length) (h1 : ∀ v ∈ cs, v.oneCell' = true)
    (h : ∀ W, Box W g t cs.toArray → Kp (fun k => k = g) w W → K (a.put op.dst undef) W) : op.wp P a w K Q := by
  have hb' : Box w g t old.toList.toArray := hb
  refine wp_store_mid ty x y ho g 0 cs.toArray hx hy ?_ (by simpa using hi) (all_oneCell_toArray h1) ?_
  · have := hb'.there
    simp only [List.size_toArray, Array.length_toList] at this ⊢
    rw [← hs]
    exact this
  · refine h _ ?_ (Kp.setCells _ 0 w (Kp.refl _ w) (.inr rfl))
    exact hb'.write (by simpa using hs.symm)
/-- An act: a page, used or not. -/
structure Ba where
  i : Int
  u : Bool
def Ba.cells (x : Ba) : Array Value := #[.int .i64 x.i, .bool x.u]
/-- A slice at the address A reads as these acts. -/
def RdA (w : World) (A : Option Addr) (l : List Ba) : Prop :=
  l = [] ∨ ∃ b o, A = some ⟨b, o, none⟩ ∧ ∀ (k : Nat) (x : Ba), l[k]? = some x → ∀ (j : Nat) (v : Value), x.cells[j]? = some v → w.cell? ⟨b, o + k * 2 + j, none⟩ = some v
theorem RdA.at' {w : World} {A : Option Addr} {l : List Ba} {k : Nat} (h : RdA w A l) (hk : k < l.length) : ∃ b o, A = some ⟨b, o, none⟩ ∧ w.cell? ⟨b, o + k * 2, none⟩ = some (.int .i64 l[k].i) ∧ w.cell? ⟨b, o + k * 2 + 1, none⟩ = some (.bool l[k].u) := by
  rcases h with rfl | ⟨b, o, rfl, hc⟩
  · simp at hk
  · exact ⟨b, o, rfl, hc k l[k] (List.getElem?_eq_getElem hk) 0 _ rfl, hc k l[k] (List.getElem?_eq_getElem hk) 1 _ rfl⟩
theorem RdA.kp {S : Nat → Prop} {w w' : World} {A : Option Addr} {l : List Ba} (h : RdA w A l) (hk : Kp S w w') (hn : ∀ a, A = some a → ¬ S a.block) : RdA w' A l := by
  rcases h with h | ⟨b, o, rfl, hc⟩
  · exact .inl h
  · exact .inr ⟨b, o, rfl, fun k x hx j v hv => (hk.cell (p := ⟨b, o + k * 2 + j, none⟩) (World.block_lt_of_cell? w ⟨b, o + k * 2 + j, none⟩ (hc k x hx j v hv)) (hn ⟨b, o, none⟩ rfl)).trans (hc k x hx j v hv)⟩
theorem rdm_mp {w : World} {g gm : Nat} {l : List Bool} {f : Nat → Bool} {n : Nat} (h : RdM w g l) (hm : Mp w gm f n) : g ≠ gm := by
  obtain ⟨cur, hb, _⟩ := h
  exact Box.type_ne hb hm (by decide)
set_option maxRecDepth 100000 in
set_option maxHeartbeats 1000000 in
theorem plays_long (n : Int) (A : Option Addr) (l : List Ba) (c : Nat) (w : World) (hm : l.length ≤ maxLen) (tb : Tbl w) (h : 1500 < l.length) :
    Calls Tryd.prog 3 #[.int .i64 n, .slice A l.length c] w fun e w' => e = .returned (.bool true) ∧ Kp (fun _ => False) w w' := by
  unfold maxLen at hm
  have HW := Lib.hid (wakes_true w tb)
  clear tb
  go_enter Tryd.func3, Tryd.ntmps3
  go_wp2_with fail
  refine (HW.out).mono ?_
  rintro e w1 ⟨rfl, k1⟩
  have K1 := Lib.hid k1
  clear k1
  go_wp2_with fail
  go_ret
  exact ⟨rfl, K1.out⟩
set_option maxRecDepth 100000 in
set_option maxHeartbeats 4000000 in
theorem plays_bad (n : Int) (A : Option Addr) (l : List Ba) (c : Nat) (w : World) (hl : l.length ≤ 1500) (h : ¬ (1 ≤ n ∧ n ≤ 1024)) (tb : Tbl w) :
    Calls Tryd.prog 3 #[.int .i64 n, .slice A l.length c] w fun e w' => e = .returned (.bool true) ∧ Kp (fun _ => False) w w' := by
  have hnew := new_any n w
  rw [if_neg h, if_neg h] at hnew
  have HN := Lib.hid hnew
  have HT := Lib.hid tb
  have HLEN := Lib.hid (len_any nof 0)
  have heq := eql_map nof 0
  rw [← zlit] at heq HLEN
  have HEQ := Lib.hid heq
  have hli : (l.length : Int) ≤ 1500 := by omega
  have hd : (decide (n < 1) || decide (1024 < n)) = true := by
    by_cases h0 : n < 1
    · simp [h0]
    · have : 1024 < n := by
        rcases Int.lt_or_le 1024 n with h2 | h2
        · exact h2
        · exact absurd ⟨by omega, h2⟩ h
      simp [this]
  clear hnew tb heq
  have go : ∀ b : Bool, decide (n < 1) = b → Calls Tryd.prog 3 #[.int .i64 n, .slice A l.length c] w fun e w' => e = .returned (.bool true) ∧ Kp (fun _ => False) w w' := by
    intro b hb
    rcases b with _ | _
    · have h0 : ¬ n < 1 := by simpa using hb
      have h2 : 1024 < n := by
        rcases Int.lt_or_le 1024 n with h2 | h2
        · exact h2
        · exact absurd ⟨by omega, h2⟩ h
      clear hd h hb
      go_enter Tryd.func3, Tryd.ntmps3
      go_wp2_with fail
      refine (HN.out).mono ?_
      rintro e w1 ⟨rfl, k1⟩
      have K1 := Lib.hid k1
      clear k1
      rw [← zlit]
      go_upto_region 4 with (first | (refine bstore_box rfl 27 (.tmp 5) (.tmp 18) rfl (w1.heap.size) ([.int .u64 0, .int .u64 0, .int .u64 0, .int .u64 0, .int .u64 0, .int .u64 0, .int .u64 0, .int .u64 0, .int .u64 0, .int .u64 0, .int .u64 0, .int .u64 0, .int .u64 0, .int .u64 0, .int .u64 0, .int .u64 0, .int .i64 0]) rfl rfl (Box.new w1 _ _) rfl infoMap (zone 0) ?_; intro w2 hb2 hk2) | fail)
      have K2 := Lib.hid ((K1.out.alloc (.cells #[.int .u64 0, .int .u64 0, .int .u64 0, .int .u64 0, .int .u64 0, .int .u64 0, .int .u64 0, .int .u64 0, .int .u64 0, .int .u64 0, .int .u64 0, .int .u64 0, .int .u64 0, .int .u64 0, .int .u64 0, .int .u64 0, .int .i64 0] 27)).trans_new hk2 (fun k e => .inl (by have := K1.out.size; omega)))
      have M2 : Hid (Box w2 w1.heap.size 27 #[.int .u64 0, .int .u64 0, .int .u64 0, .int .u64 0, .int .u64 0, .int .u64 0, .int .u64 0, .int .u64 0, .int .u64 0, .int .u64 0, .int .u64 0, .int .u64 0, .int .u64 0, .int .u64 0, .int .u64 0, .int .u64 0, .int .i64 0]) := Lib.hid hb2
      obtain ⟨gm, hgm⟩ : ∃ gm, w1.heap.size = gm := ⟨_, rfl⟩
      rw [hgm] at M2
      have HG := Lib.hid hgm
      rw [HG.out]
      clear hb2 hk2 hgm
      go_upto_region 5 with fail
      refine wp_region_list ?_
      simp only []
      refine wpList_step (fun K hK => ?_)
      go_simp
      refine hK _ _ ?_
      clear hK K
      refine wpList_step (fun K hK => ?_)
      go_simp
      refine hK _ _ ?_
      clear hK K
      refine wpList_step (fun K hK => ?_)
      go_simp
      refine hK _ _ ?_
      clear hK K
      refine wpList_step (fun K hK => ?_)
      rw [if_pos (by rfl)]
      refine wp_load_mid 27 (.tmp 5) rfl gm 0 rfl ([.int .u64 0, .int .u64 0, .int .u64 0, .int .u64 0, .int .u64 0, .int .u64 0, .int .u64 0, .int .u64 0, .int .u64 0, .int .u64 0, .int .u64 0, .int .u64 0, .int .u64 0, .int .u64 0, .int .u64 0, .int .u64 0, .int .i64 0]) _ (Box.range' (L := [.int .u64 0, .int .u64 0, .int .u64 0, .int .u64 0, .int .u64 0, .int .u64 0, .int .u64 0, .int .u64 0, .int .u64 0, .int .u64 0, .int .u64 0, .int .u64 0, .int .u64 0, .int .u64 0, .int .u64 0, .int .u64 0, .int .i64 0]) M2.out) Tryd.underlying27 rfl infoMap ?_
      refine hK _ _ ?_
      clear hK K
      refine wpList_step (fun K hK => ?_)
      go_simp
      refine hK _ _ ?_
      clear hK K
      refine wpList_step (fun K hK => ?_)
      rw [if_pos (by rfl)]
      refine wp_eql_known 27 27 (.tmp 29) (.tmp 30) rfl #[.int .u64 0, .int .u64 0, .int .u64 0, .int .u64 0, .int .u64 0, .int .u64 0, .int .u64 0, .int .u64 0, .int .u64 0, .int .u64 0, .int .u64 0, .int .u64 0, .int .u64 0, .int .u64 0, .int .u64 0, .int .u64 0, .int .i64 0] #[.int .u64 0, .int .u64 0, .int .u64 0, .int .u64 0, .int .u64 0, .int .u64 0, .int .u64 0, .int .u64 0, .int .u64 0, .int .u64 0, .int .u64 0, .int .u64 0, .int .u64 0, .int .u64 0, .int .u64 0, .int .u64 0, .int .i64 0] _ rfl rfl (by kernel_rfl) (HEQ.out w2) ?_
      refine hK _ _ ?_
      clear hK K
      refine wpList_step (fun K hK => ?_)
      go_simp
      refine hK _ _ ?_
      clear hK K
      refine wpList_step (fun K hK => ?_)
      go_simp
      refine hK _ _ ?_
      clear hK K
      refine wpList_step (fun K hK => ?_)
      rw [if_pos (by rfl)]
      refine wp_load_mid 27 (.tmp 5) rfl gm 0 rfl ([.int .u64 0, .int .u64 0, .int .u64 0, .int .u64 0, .int .u64 0, .int .u64 0, .int .u64 0, .int .u64 0, .int .u64 0, .int .u64 0, .int .u64 0, .int .u64 0, .int .u64 0, .int .u64 0, .int .u64 0, .int .u64 0, .int .i64 0]) _ (Box.range' (L := [.int .u64 0, .int .u64 0, .int .u64 0, .int .u64 0, .int .u64 0, .int .u64 0, .int .u64 0, .int .u64 0, .int .u64 0, .int .u64 0, .int .u64 0, .int .u64 0, .int .u64 0, .int .u64 0, .int .u64 0, .int .u64 0, .int .i64 0]) M2.out) Tryd.underlying27 rfl infoMap ?_
      refine hK _ _ ?_
      clear hK K
      refine wpList_step (fun K hK => ?_)
      go_simp
      refine (HLEN.out w2).mono ?_
      rintro e w3 ⟨rfl, k3⟩
      have K3 := Lib.hid (K2.out.trans k3)
      have HT3 := Lib.hid (HT.out.kp K3.out (fun h => h))
      clear k3
      go_simp
      refine hK _ _ ?_
      clear hK K
      refine wpList_step (fun K hK => ?_)
      go_simp
      refine hK _ _ ?_
      clear hK K
      refine wpList_step (fun K hK => ?_)
      go_simp
      refine hK _ _ ?_
      clear hK K
      refine wpList_step (fun K hK => ?_)
      go_simp
      refine hK _ _ ?_
      clear hK K
      refine wpList_step (fun K hK => ?_)
      go_simp
      refine (wakes_true w3 HT3.out).mono ?_
      rintro e w4 ⟨rfl, k4⟩
      have K4 := Lib.hid (K3.out.trans k4)
      clear k4
      go_simp
      refine hK _ _ ?_
      clear hK K
      refine wpList_step (fun K hK => ?_)
      go_simp
      refine hK _ _ ?_
      clear hK K
      refine wpList_step (fun K hK => ?_)
      go_simp
      refine hK _ _ ?_
      clear hK K
      refine wpList_nil ?_
      go_wp2_with fail
      go_ret
      exact ⟨rfl, K4.out⟩
    · have h0 : n < 1 := by simpa using hb
      clear hd h hb
      go_enter Tryd.func3, Tryd.ntmps3
      go_wp2_with fail
      refine (HN.out).mono ?_
      rintro e w1 ⟨rfl, k1⟩
      have K1 := Lib.hid k1
      clear k1
      rw [← zlit]
      go_upto_region 4 with (first | (refine bstore_box rfl 27 (.tmp 5) (.tmp 18) rfl (w1.heap.size) ([.int .u64 0, .int .u64 0, .int .u64 0, .int .u64 0, .int .u64 0, .int .u64 0, .int .u64 0, .int .u64 0, .int .u64 0, .int .u64 0, .int .u64 0, .int .u64 0, .int .u64 0, .int .u64 0, .int .u64 0, .int .u64 0, .int .i64 0]) rfl rfl (Box.new w1 _ _) rfl infoMap (zone 0) ?_; intro w2 hb2 hk2) | fail)
      have K2 := Lib.hid ((K1.out.alloc (.cells #[.int .u64 0, .int .u64 0, .int .u64 0, .int .u64 0, .int .u64 0, .int .u64 0, .int .u64 0, .int .u64 0, .int .u64 0, .int .u64 0, .int .u64 0, .int .u64 0, .int .u64 0, .int .u64 0, .int .u64 0, .int .u64 0, .int .i64 0] 27)).trans_new hk2 (fun k e => .inl (by have := K1.out.size; omega)))
      have M2 : Hid (Box w2 w1.heap.size 27 #[.int .u64 0, .int .u64 0, .int .u64 0, .int .u64 0, .int .u64 0, .int .u64 0, .int .u64 0, .int .u64 0, .int .u64 0, .int .u64 0, .int .u64 0, .int .u64 0, .int .u64 0, .int .u64 0, .int .u64 0, .int .u64 0, .int .i64 0]) := Lib.hid hb2
      obtain ⟨gm, hgm⟩ : ∃ gm, w1.heap.size = gm := ⟨_, rfl⟩
      rw [hgm] at M2
      have HG := Lib.hid hgm
      rw [HG.out]
      clear hb2 hk2 hgm
      go_upto_region 5 with fail
      refine wp_region_list ?_
      simp only []
      refine wpList_step (fun K hK => ?_)
      go_simp
      refine hK _ _ ?_
      clear hK K
      refine wpList_step (fun K hK => ?_)
      go_simp
      refine hK _ _ ?_
      clear hK K
      refine wpList_step (fun K hK => ?_)
      go_simp
      refine hK _ _ ?_
      clear hK K
      refine wpList_step (fun K hK => ?_)
      rw [if_pos (by rfl)]
      refine wp_load_mid 27 (.tmp 5) rfl gm 0 rfl ([.int .u64 0, .int .u64 0, .int .u64 0, .int .u64 0, .int .u64 0, .int .u64 0, .int .u64 0, .int .u64 0, .int .u64 0, .int .u64 0, .int .u64 0, .int .u64 0, .int .u64 0, .int .u64 0, .int .u64 0, .int .u64 0, .int .i64 0]) _ (Box.range' (L := [.int .u64 0, .int .u64 0, .int .u64 0, .int .u64 0, .int .u64 0, .int .u64 0, .int .u64 0, .int .u64 0, .int .u64 0, .int .u64 0, .int .u64 0, .int .u64 0, .int .u64 0, .int .u64 0, .int .u64 0, .int .u64 0, .int .i64 0]) M2.out) Tryd.underlying27 rfl infoMap ?_
      refine hK _ _ ?_
      clear hK K
      refine wpList_step (fun K hK => ?_)
      go_simp
      refine hK _ _ ?_
      clear hK K
      refine wpList_step (fun K hK => ?_)
      rw [if_pos (by rfl)]
      refine wp_eql_known 27 27 (.tmp 29) (.tmp 30) rfl #[.int .u64 0, .int .u64 0, .int .u64 0, .int .u64 0, .int .u64 0, .int .u64 0, .int .u64 0, .int .u64 0, .int .u64 0, .int .u64 0, .int .u64 0, .int .u64 0, .int .u64 0, .int .u64 0, .int .u64 0, .int .u64 0, .int .i64 0] #[.int .u64 0, .int .u64 0, .int .u64 0, .int .u64 0, .int .u64 0, .int .u64 0, .int .u64 0, .int .u64 0, .int .u64 0, .int .u64 0, .int .u64 0, .int .u64 0, .int .u64 0, .int .u64 0, .int .u64 0, .int .u64 0, .int .i64 0] _ rfl rfl (by kernel_rfl) (HEQ.out w2) ?_
      refine hK _ _ ?_
      clear hK K
      refine wpList_step (fun K hK => ?_)
      go_simp
      refine hK _ _ ?_
      clear hK K
      refine wpList_step (fun K hK => ?_)
      go_simp
      refine hK _ _ ?_
      clear hK K
      refine wpList_step (fun K hK => ?_)
      rw [if_pos (by rfl)]
      refine wp_load_mid 27 (.tmp 5) rfl gm 0 rfl ([.int .u64 0, .int .u64 0, .int .u64 0, .int .u64 0, .int .u64 0, .int .u64 0, .int .u64 0, .int .u64 0, .int .u64 0, .int .u64 0, .int .u64 0, .int .u64 0, .int .u64 0, .int .u64 0, .int .u64 0, .int .u64 0, .int .i64 0]) _ (Box.range' (L := [.int .u64 0, .int .u64 0, .int .u64 0, .int .u64 0, .int .u64 0, .int .u64 0, .int .u64 0, .int .u64 0, .int .u64 0, .int .u64 0, .int .u64 0, .int .u64 0, .int .u64 0, .int .u64 0, .int .u64 0, .int .u64 0, .int .i64 0]) M2.out) Tryd.underlying27 rfl infoMap ?_
      refine hK _ _ ?_
      clear hK K
      refine wpList_step (fun K hK => ?_)
      go_simp
      refine (HLEN.out w2).mono ?_
      rintro e w3 ⟨rfl, k3⟩
      have K3 := Lib.hid (K2.out.trans k3)
      have HT3 := Lib.hid (HT.out.kp K3.out (fun h => h))
      clear k3
      go_simp
      refine hK _ _ ?_
      clear hK K
      refine wpList_step (fun K hK => ?_)
      go_simp
      refine hK _ _ ?_
      clear hK K
      refine wpList_step (fun K hK => ?_)
      go_simp
      refine hK _ _ ?_
      clear hK K
      refine wpList_step (fun K hK => ?_)
      go_simp
      refine hK _ _ ?_
      clear hK K
      refine wpList_step (fun K hK => ?_)
      go_simp
      refine (wakes_true w3 HT3.out).mono ?_
      rintro e w4 ⟨rfl, k4⟩
      have K4 := Lib.hid (K3.out.trans k4)
      clear k4
      go_simp
      refine hK _ _ ?_
      clear hK K
      refine wpList_step (fun K hK => ?_)
      go_simp
      refine hK _ _ ?_
      clear hK K
      refine wpList_step (fun K hK => ?_)
      go_simp
      refine hK _ _ ?_
      clear hK K
      refine wpList_nil ?_
      go_wp2_with fail
      go_ret
      exact ⟨rfl, K4.out⟩
  exact go _ rfl
end Go.Proofs.YtlhfdoaknfgemaaDoor
