/- The bytes of a slice from its end: what the library's iterator hands out, in its order. Condition: the slice has its bytes. -/
import Derived.RangeFuncNested
import Derived.RangeFuncBound
import Derived.RangeFuncCalls
import Derived.RangeFuncLeaves
import Derived.Shelf.Abstract
import Derived.Shelf.RegionOpen
import Derived.WalkKit
import Derived.OwnWalkIn
import Derived.TacticsInMore
import Derived.LoopNIn
import Derived.LoopIn
import Derived.BigRegionIn
import Derived.Sort.QuietIn
import Derived.Test.YtlhfdoaknfgemaaDoorChecked
import Derived.Test.YtlhfdoaknfgemaaDoorMem2
namespace Go.Proofs.YtlhfdoaknfgemaaDoor
open Go.RowKit Go.Shelf
attribute [local go_sem] Oper.semAt_some

set_option maxHeartbeats 1000000 in
theorem back_in (F : Fence) (n : Nat) (h12 : F.fn 27) (hro : F.round = none) (A : Option Addr) (m c : Nat) (w : World) :
    CallsIn F n Tryd.prog 27 #[.slice A m c] w fun e w' => e = .returned (.func (.func 29) #[] #[.pointer (some ⟨w.heap.size, 0, none⟩)]) ∧ w' = w.alloc (.cells #[.slice A m c] 39) := by
  refine callsIn_of_wp Tryd.func27 rfl h12 ?_ hro
  simp only [Tryd.ntmps27, List.size_toArray, List.length_cons, List.length_nil, Nat.reduceAdd, Nat.reduceSub, Array.replicate_succ, Array.replicate_zero, List.push_toArray, List.append_toArray, List.nil_append, List.cons_append]
  gi_wp2
  go_ret
  exact ⟨rfl, rfl⟩
theorem fin_take (m k : Nat) (h : k < m) : (List.finRange m).take (k + 1) = (List.finRange m).take k ++ [⟨k, h⟩] := by
  rw [List.take_succ_eq_append_getElem (by simpa using h)]
  simp
/-- What is handed out, the k-th: its place from the end, and the byte. -/
def backAt (l : List UInt8) (k : Nat) : Array Value := #[.int .i64 (((l.length - 1 - k : Nat)) : Int), .int .u8 (l.getD (l.length - 1 - k) 0).toNat]
set_option maxRecDepth 100000 in
set_option maxHeartbeats 2000000 in
theorem back1_in (F : Fence) (n : Nat) (h20 : F.fn 29) (hro : F.round = none) (_hn : 1 ≤ n) (y Bs b o m c : Nat) (l : List UInt8) (hmx : l.length ≤ 1048576) (hm : l.length = m) (J Jx : List (Fin m) → World → Prop)
    (hJd : ∀ n pre w, J pre w → J pre (w.drewN n))
    (hY : ∀ pre x W, J pre W → pre.length < m → YieldAt F (n - 1) Tryd.prog y (backAt l x.1) W fun e W' =>
      (e = .returned (.bool true) ∧ J (pre ++ [x]) W' ∧ Kp (fun k => k ≠ Bs ∧ k ≠ b) W W') ∨ (e = .returned (.bool false) ∧ Jx (pre ++ [x]) W'))
    (W : World) (hcs : W.cell? ⟨Bs, 0, none⟩ = some (.slice (some ⟨b, o, none⟩) l.length c)) (hcn : ∀ j u, l[j]? = some u → W.cell? ⟨b, o + j, none⟩ = some (.int .u8 u.toNat)) (h0 : J [] W) :
    CallsIn F n Tryd.prog 29 #[.func (.yield y) #[] #[], .pointer (some ⟨Bs, 0, none⟩)] W fun e W' => (∃ v, e = .returned v) ∧
      ((∃ ys, ys = List.finRange m ∧ J ys W') ∨ (∃ pre, (∃ k, k ≤ m ∧ pre = (List.finRange m).take k) ∧ Jx pre W')) := by
  have hbs := World.block_lt_of_cell? W ⟨Bs, 0, none⟩ hcs
  have Hcn := Lib.hid hcn
  have H0 := Lib.hid h0
  clear hcn h0
  refine callsIn_of_wp Tryd.func29 rfl h20 ?_ hro
  simp only [Tryd.ntmps29, List.size_toArray, List.length_cons, List.length_nil, Nat.reduceAdd, Nat.reduceSub, Array.replicate_succ, Array.replicate_zero, List.push_toArray, List.append_toArray, List.nil_append, List.cons_append]
  gi_wp2
  gi_loopw [3] (fun u wr => ∃ k : Nat, k ≤ m ∧ u = .int .i64 ((m : Int) - 1 - k) ∧ J ((List.finRange m).take k) wr ∧ Kp (fun k => k ≠ Bs ∧ k ≠ b) W wr)
    (fun u _ => (intOf u + 1).toNat)
  case atStart =>
    exact ⟨0, Nat.zero_le _, by simp, H0.out, Kp.refl _ _⟩
  case round =>
    obtain ⟨k, hk, rfl, hJs, hnx⟩ := hrel
    by_cases hlt : k < m
    · have hyy := hY ((List.finRange m).take k) ⟨k, hlt⟩ wr hJs (by simp; omega)
      obtain ⟨i, hi⟩ : ∃ i : Nat, m - 1 - k = i := ⟨_, rfl⟩
      have hii : (m : Int) - 1 - k = (i : Int) := by omega
      have him : i < m := by omega
      have hgl : l[i]? = some (l.getD i 0) := by
        rw [List.getElem?_eq_getElem (by omega), List.getD_eq_getElem?_getD, List.getElem?_eq_getElem (by omega)]; rfl
      have e1 : backAt l k = #[.int .i64 (i : Int), .int .u8 (l.getD i 0).toNat] := by rw [backAt, hm, hi]
      simp only [e1] at hyy
      obtain ⟨x, hx⟩ : ∃ x, l.getD i 0 = x := ⟨_, rfl⟩
      rw [hx] at hgl hyy
      have hcx := Hcn.out i x hgl
      have c1 : wr.cell? ⟨Bs, 0, none⟩ = some (.slice (some ⟨b, o, none⟩) m c) := by
        rw [← hm]
        exact (hnx.cell (p := ⟨Bs, 0, none⟩) hbs (fun h => h.1 rfl)).trans hcs
      have c2 : wr.cell? ⟨b, o + i, none⟩ = some (.int .u8 x.toNat) := (hnx.cell (p := ⟨b, o + i, none⟩) (World.block_lt_of_cell? W _ hcx) (fun h => h.2 rfl)).trans hcx
      have hmi : (i : Int) < m := by omega
      have hil : (i : Int) ≤ 1048576 := by omega
      have Hii := Lib.hid hii
      have Hf := Lib.hid (fin_take m k hlt)
      have Hnx := Lib.hid hnx
      have hi2 : i = m - 1 - k := hi.symm
      obtain ⟨fn, tmps, assign, body, hy, hR⟩ := hyy
      have HR := Lib.hid hR
      clear hR hi hgl e1 hx hcx hnx hJs hcs hm hi2
      rw [Hii.out]
      clear hii
      gi_wp2
      refine HR.out.mono ?_
      rintro e W3 (⟨rfl, hJ3, hk3⟩ | ⟨rfl, hJx3⟩)
      · gi_wp2
        go_roundw
        case rel => exact ⟨k + 1, by omega, by have := Hii.out; congr 1; omega, by rw [Hf.out]; exact hJ3, Hnx.out.trans hk3⟩
        case measure => simp [intOf]
      · gi_wp2
        refine bodyPost_ret (results_none rfl _ _ _) rfl ?_
        exact ⟨⟨_, rfl⟩, .inr ⟨_, ⟨k + 1, by omega, Hf.out.symm⟩, hJx3⟩⟩
    · obtain rfl : k = m := by omega
      have hz : (k : Int) - 1 - k = -1 := by omega
      rw [hz]
      have hl : (List.finRange k).take k = List.finRange k := List.take_of_length_le (by rw [List.length_finRange]; omega)
      rw [hl] at hJs
      clear hl hz hlt
      gi_wp2
      go_end0
      exact ⟨⟨_, rfl⟩, .inl ⟨_, rfl, hJs⟩⟩
end Go.Proofs.YtlhfdoaknfgemaaDoor
