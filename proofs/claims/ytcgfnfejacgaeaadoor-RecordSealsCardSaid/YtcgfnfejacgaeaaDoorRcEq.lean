/- A record, and a head, compared with itself. No condition. -/
import Derived.Test.YtcgfnfejacgaeaaDoorRcBld
import Derived.Test.YtcgfnfejacgaeaaDoorRcSec
import Derived.Stop.BytesEq
namespace Go.Proofs.YtcgfnfejacgaeaaDoor
open Go.RowKit

theorem hash_size : ∀ w, (sizeOf 5).run Tryd.prog w = .ok 1 w := by
  intro w
  have : (Tryd.prog.info? 5).map (·.size) = some 1 := by kernel_rfl
  cases hq : Tryd.prog.info? 5 with
  | none => simp [hq] at this
  | some i =>
    simp [hq] at this
    simp [sizeOf, typeInfo, hq, this]
theorem rcv_hash {a : Nat} {h : List UInt8} {s : ByteArray} (hh : h.length = 32) : (rcv a h s).tail.take 32 = bcs h := by
  have hb : (bcs h).length = 32 := by rw [bcs_length, hh]
  rw [rcv, List.tail_cons, List.take_append_of_le_length (by omega), List.take_of_length_le (by omega)]
theorem eql_rec (a : Nat) (h : List UInt8) (s : ByteArray) (hh : h.length = 32) (w : World) : (Op.equalIn 10000 49 (.agg (rcv a h s).toArray) (.agg (rcv a h s).toArray)).run Tryd.prog w = .ok true w := by
  have hS : Tryd.prog.underlying 49 = some (.struct (Tryd.prog.fieldsOf 49)) := by kernel_rfl
  have hp : Tryd.prog.stoodInHeld 49 = false := by kernel_rfl
  have u1 := Tryd.underlying9
  have u2 := Tryd.underlying3
  have u3 := Tryd.underlying44
  have u4 := Tryd.underlying5
  have a1 := Tryd.isAgg9
  have a2 := Tryd.isAgg3
  have a3 := Tryd.isAgg44
  have z1 := Tryd.sizeOf9
  have z2 := Tryd.sizeOf3
  have z3 := Tryd.sizeOf44
  have s0 := rcv_at a h s
  have s1 := rcv_hash (a := a) (s := s) hh
  have s2 := rcv_data (a := a) (s := s) hh
  have he : (Op.equalIn 9999 44 (.agg (bcs h).toArray) (.agg (bcs h).toArray)).run Tryd.prog w = .ok (h == h) w := run_equalIn_bytes w 9997 44 5 32 u3 u4 hash_size h h hh hh
  rw [show (10000 : Nat) = 9999 + 1 from rfl, run_equalIn_agg w 9999 49 _ _ hS hp]
  simp only [Program.fieldsOf, Tryd.underlying49]
  go_simp
theorem eql_head (h : Hd) (w : World) : (Op.equalIn 10000 32 (.agg (hcs h).toArray) (.agg (hcs h).toArray)).run Tryd.prog w = .ok true w := by
  have hS : Tryd.prog.underlying 32 = some (.struct (Tryd.prog.fieldsOf 32)) := by kernel_rfl
  have hp : Tryd.prog.stoodInHeld 32 = false := by kernel_rfl
  have u1 := Tryd.underlying27
  have u2 := Tryd.underlying3
  have a1 := Tryd.isAgg27
  have a2 := Tryd.isAgg3
  have z1 := Tryd.sizeOf27
  have z2 := Tryd.sizeOf3
  rw [show (10000 : Nat) = 9999 + 1 from rfl, run_equalIn_agg w 9999 32 _ _ hS hp]
  simp only [Program.fieldsOf, Tryd.underlying32, hcs]
  go_simp
theorem eq_rec (a : Nat) (h : List UInt8) (s : ByteArray) (hh : h.length = 32) (w : World) : (binOp .eql 49 (.agg (rcv a h s).toArray) (.agg (rcv a h s).toArray)).run Tryd.prog w = .ok (.bool true) w := by
  rw [run_eql_struct, eql_rec a h s hh]
  rfl
theorem ne_rec (a : Nat) (h : List UInt8) (s : ByteArray) (hh : h.length = 32) (w : World) : (binOp .neq 49 (.agg (rcv a h s).toArray) (.agg (rcv a h s).toArray)).run Tryd.prog w = .ok (.bool false) w := by
  rw [run_neq_struct, eql_rec a h s hh]
  rfl
theorem eq_head (h : Hd) (w : World) : (binOp .eql 32 (.agg (hcs h).toArray) (.agg (hcs h).toArray)).run Tryd.prog w = .ok (.bool true) w := by
  rw [run_eql_struct, eql_head h]
  rfl
end Go.Proofs.YtcgfnfejacgaeaaDoor
