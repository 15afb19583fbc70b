/- The iterator of a text's sheets: what it hands out, in its order. No condition but that the text has at most 2^47 bytes. -/
import Derived.RangeFuncNested
import Derived.RangeFuncBound
import Derived.RangeFuncCalls
import Derived.RangeFuncLeaves
import Derived.Shelf.Abstract
import Derived.Shelf.RegionOpen
import Derived.WalkKit
import Derived.OwnWalkIn
import Derived.TacticsInMore
import Derived.LoopNIn
import Derived.LoopIn
import Derived.BigRegionIn
import Derived.Sort.QuietIn
import Derived.Test.YtfcljcikajaedaaGreatDoorChecked
import Derived.Test.YtfcljcikajaedaaGreatDoorMg1
import Derived.Test.YtfcljcikajaedaaGreatDoorMg2
namespace Go.Proofs.YtfcljcikajaedaaGreatDoor
open Go.RowKit Go.Shelf
attribute [local go_sem] Oper.semAt_some

/-- A sheet's three cells, and a sheet as a value. -/
def cells3 (s : Sh) : Array Value := #[.int .u64 s.q, .bool s.last, .string ⟨s.t.toArray⟩]

set_option maxHeartbeats 1000000 in
theorem sheets_in (F : Fence) (n : Nat) (h12 : F.fn 105) (hro : F.round = none) (q : Int) (s : ByteArray) (w : World) :
    CallsIn F n Tryz.prog 105 #[.int .u64 q, .string s] w fun e w' => e = .returned (.func (.func 130) #[] #[.pointer (some ⟨w.heap.size, 0, none⟩), .pointer (some ⟨w.heap.size + 1, 0, none⟩)]) ∧ w' = (w.alloc (.cells #[.int .u64 q] 35)).alloc (.cells #[.string s] 9) := by
  refine callsIn_of_wp Tryz.func105 rfl h12 ?_ hro
  simp only [Tryz.ntmps105, List.size_toArray, List.length_cons, List.length_nil, Nat.reduceAdd, Nat.reduceSub, Array.replicate_succ, Array.replicate_zero, List.push_toArray, List.append_toArray, List.nil_append, List.cons_append]
  gi_wp2
  go_ret
  exact ⟨rfl, rfl⟩

theorem ext_upto (r : List UInt8) (k : Nat) : (⟨r.toArray⟩ : ByteArray).extract 0 k = ⟨(r.take k).toArray⟩ := by
  apply ByteArray.ext
  simp [ByteArray.data_extract]
theorem ext_from (r : List UInt8) (k n : Nat) (h : r.length = n) : (⟨r.toArray⟩ : ByteArray).extract k n = ⟨(r.drop k).toArray⟩ := by
  subst h
  apply ByteArray.ext
  simp [ByteArray.data_extract]
  exact List.take_of_length_le (by simp)
theorem at_next (q k : Nat) : IntKind.u64.wrap ((((q + k) % 18446744073709551616 : Nat) : Int) + 1) = (((q + (k + 1)) % 18446744073709551616 : Nat) : Int) := by
  have h (n : Nat) : IntKind.u64.wrap ((n : Int) + 1) = (((n + 1) % 18446744073709551616 : Nat) : Int) := by
    simp [IntKind.wrap, IntKind.signed, IntKind.bits]
  rw [h]
  have : ((q + k) % 18446744073709551616 + 1) % 18446744073709551616 = (q + (k + 1)) % 18446744073709551616 := by rw [Nat.mod_add_mod]; rfl
  rw [this]
def strLen : Value → Nat
  | .string s => s.size
  | _ => 0
theorem fin_take (m k : Nat) (h : k < m) : (List.finRange m).take (k + 1) = (List.finRange m).take k ++ [⟨k, h⟩] := by
  rw [List.take_succ_eq_append_getElem (by simpa using h)]
  simp

set_option maxRecDepth 100000 in
set_option maxHeartbeats 2000000 in
theorem sheets1_in (F : Fence) (n : Nat) (h20 : F.fn 130) (hro : F.round = none) (hn : 1 ≤ n) (l Bs Bn q m : Nat) (tx : List UInt8) (hmx : tx.length ≤ 140737488355328) (hm : need tx.length = m) (hq : q < 18446744073709551616) (J Jx : List (Fin m) → World → Prop)
    (hJd : ∀ n pre w, J pre w → J pre (w.drewN n))
    (hY : ∀ pre x W, J pre W → pre.length < m → YieldAt F (n - 1) Tryz.prog l #[.agg (cells3 (shAt q tx x.1))] W fun e W' =>
      (e = .returned (.bool true) ∧ J (pre ++ [x]) W' ∧ Kp (fun k => k ≠ Bs ∧ k ≠ Bn) W W') ∨ (e = .returned (.bool false) ∧ Jx (pre ++ [x]) W'))
    (W : World) (_hBs : Bs < W.heap.size) (_hBn : Bn < W.heap.size) (hcs : W.cell? ⟨Bs, 0, none⟩ = some (.int .u64 q)) (hcn : W.cell? ⟨Bn, 0, none⟩ = some (.string ⟨tx.toArray⟩)) (h0 : J [] W) :
    CallsIn F n Tryz.prog 130 #[.func (.yield l) #[] #[], .pointer (some ⟨Bs, 0, none⟩), .pointer (some ⟨Bn, 0, none⟩)] W fun e W' => (∃ v, e = .returned v) ∧
      ((∃ ys, ys = List.finRange m ∧ J ys W') ∨ (∃ pre, (∃ k, k ≤ m ∧ pre = (List.finRange m).take k) ∧ Jx pre W')) := by
  refine callsIn_of_wp Tryz.func130 rfl h20 ?_ hro
  simp only [Tryz.ntmps130, List.size_toArray, List.length_cons, List.length_nil, Nat.reduceAdd, Nat.reduceSub, Array.replicate_succ, Array.replicate_zero, List.push_toArray, List.append_toArray, List.nil_append, List.cons_append]
  gi_wp2
  rcases F with ⟨_, _, _⟩
  dsimp only at hro
  subst hro
  gi_quiet (fail)
  gi_wp2
  gi_loopw [4, 5] (fun u v wr => ∃ k : Nat, k < m ∧ u = .int .u64 (((q + k) % 18446744073709551616 : Nat) : Int) ∧ v = .string ⟨(tx.drop (497 * k)).toArray⟩ ∧ J ((List.finRange m).take k) wr ∧ Kp (fun k => k ≠ Bs ∧ k ≠ Bn) W wr)
    (fun _ v _ => strLen v)
  case atStart =>
    exact ⟨0, by have := need_pos tx.length; omega, by rw [Nat.add_zero, Nat.mod_eq_of_lt hq], by rw [Nat.mul_zero, List.drop_zero], hJd _ _ _ h0, (Kp.refl _ _).drewN _⟩
  case round =>
    obtain ⟨k, hk, rfl, rfl, hJs, hnx⟩ := hrel
    have hyy := hY ((List.finRange m).take k) ⟨k, hk⟩ wr hJs (by simp; omega)
    have hnn : need tx.length = m := hm
    have hat := at_next q k
    have hdr : tx.drop (497 * (k + 1)) = (tx.drop (497 * k)).drop 497 := by rw [List.drop_drop, Nat.mul_succ]
    have hrl : (tx.drop (497 * k)).length = tx.length - 497 * k := List.length_drop ..
    have hbl : (k + 1 == need tx.length) = decide (¬ 497 < (tx.drop (497 * k)).length) := by
      rw [hrl, Bool.eq_iff_iff]
      unfold need at hnn ⊢
      simp
      omega
    have hlt : k + 1 < m ↔ 497 < (tx.drop (497 * k)).length := by
      rw [hrl]
      unfold need at hnn
      omega
    have hle : (tx.drop (497 * k)).length ≤ 140737488355328 := by rw [hrl]; omega
    simp only [cells3, shAt, hbl] at hyy
    have HDR := Lib.hid hdr
    clear hrl hnn hbl hdr
    generalize tx.drop (497 * k) = r at *
    obtain ⟨a2, ha2⟩ : ∃ a2, (q + (k + 1)) % 18446744073709551616 = a2 := ⟨_, rfl⟩
    rw [ha2] at hat
    have HA2 := Lib.hid ha2
    clear ha2
    generalize (q + k) % 18446744073709551616 = a at *
    by_cases hr : 497 < r.length
    · have hd1 : decide (¬ 497 < r.length) = false := by simpa using hr
      rw [hd1] at hyy
      have hx1 := ext_upto r 497
      have hx2 := ext_from r 497 r.length rfl
      have hz : decide ((497 : Int) < (r.length : Int)) = true := by simp; omega
      obtain ⟨p, hp⟩ : ∃ p, r.take 497 = p := ⟨_, rfl⟩
      rw [hp] at hx1 hyy
      obtain ⟨fn, tmps, assign, body, hy, hR⟩ := hyy
      have HR := Lib.hid hR
      have HLT := Lib.hid hlt
      clear hd1 hp hR hlt
      gi_wp2
      refine HR.out.mono ?_
      rintro e W3 (⟨rfl, hJ3, hk3⟩ | ⟨rfl, hJx3⟩)
      · gi_wp2
        go_roundw
        case rel => exact ⟨k + 1, HLT.out.2 hr, by rw [HA2.out], by rw [HDR.out], by rw [fin_take m k hk]; exact hJ3, hnx.trans hk3⟩
        case measure =>
          simp only [strLen]
          show ((r.drop 497).toArray).size < r.toArray.size
          simp
          omega
      · gi_wp2
        refine bodyPost_ret (results_none rfl _ _ _) rfl ?_
        exact ⟨⟨_, rfl⟩, .inr ⟨_, ⟨k + 1, by omega, (fin_take m k hk).symm⟩, hJx3⟩⟩
    · have hd1 : decide (¬ 497 < r.length) = true := by simpa using hr
      rw [hd1, List.take_of_length_le (by omega)] at hyy
      have hz : decide ((497 : Int) < (r.length : Int)) = false := by simp; omega
      have hkm : k + 1 = m := by
        have := mt hlt.1 hr
        omega
      obtain ⟨fn, tmps, assign, body, hy, hR⟩ := hyy
      have HR := Lib.hid hR
      have HKM := Lib.hid hkm
      clear hd1 hR hlt hkm
      gi_wp2
      refine HR.out.mono ?_
      rintro e W3 (⟨rfl, hJ3, hk3⟩ | ⟨rfl, hJx3⟩)
      · gi_wp2
        go_end0
        have hl : (List.finRange m).take (k + 1) = List.finRange m := List.take_of_length_le (by rw [List.length_finRange]; have := HKM.out; omega)
        rw [fin_take m k hk] at hl
        rw [hl] at hJ3
        exact ⟨⟨_, rfl⟩, .inl ⟨_, rfl, hJ3⟩⟩
      · gi_wp2
        go_end0
        exact ⟨⟨_, rfl⟩, .inr ⟨_, ⟨k + 1, by omega, (fin_take m k hk).symm⟩, hJx3⟩⟩

/-- The call hands out the sheets, all of them in their order, or the first few. -/
theorem sheets_stops (F : Fence) (n : Nat) (h20 : F.fn 130) (hro : F.round = none) (hn : 1 ≤ n) (Bs Bn q m : Nat) (tx : List UInt8) (hmx : tx.length ≤ 140737488355328) (hm : need tx.length = m) (hq : q < 18446744073709551616)
    (w : World) (hBs : Bs < w.heap.size) (hBn : Bn < w.heap.size) (hcs : w.cell? ⟨Bs, 0, none⟩ = some (.int .u64 q)) (hcn : w.cell? ⟨Bn, 0, none⟩ = some (.string ⟨tx.toArray⟩)) :
    SeqStopsK F n Tryz.prog 130 #[.pointer (some ⟨Bs, 0, none⟩), .pointer (some ⟨Bn, 0, none⟩)] (fun x : Fin m => #[.agg (cells3 (shAt q tx x.1))]) (Kp (fun k => k ≠ Bs ∧ k ≠ Bn)) (fun ys => ys = List.finRange m) (fun pre => ∃ k, k ≤ m ∧ pre = (List.finRange m).take k) m w := fun l J Jx W hW hJ _ hY h0 =>
  sheets1_in F n h20 hro hn l Bs Bn q m tx hmx hm hq J Jx (fun k pre w h => hJ pre w (w.drewN k) none h ⟨rfl, rfl, rfl, Nat.le_refl _, fun _ _ _ => rfl⟩ (fun r e => by cases e)) hY W (Nat.lt_of_lt_of_le hBs hW.size) (Nat.lt_of_lt_of_le hBn hW.size) ((hW.cell (p := ⟨Bs, 0, none⟩) hBs).trans hcs) ((hW.cell (p := ⟨Bn, 0, none⟩) hBn).trans hcn) h0
end Go.Proofs.YtfcljcikajaedaaGreatDoor
