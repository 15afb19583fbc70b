/- Records in memory, and built out of their parts. No condition. -/
import Derived.Test.YtcgfnfejacgaeaaDoorRcPk
namespace Go.Proofs.YtcgfnfejacgaeaaDoor
open Go.RowKit

/-- A record's cells: its place, its hash, its data. -/
def rcv (a : Nat) (h : List UInt8) (s : ByteArray) : List Value := .int .i64 a :: (bcs h ++ [.string s])
def z32 : List UInt8 := List.replicate 32 0
def e0 : ByteArray := ⟨#[]⟩
theorem z32_len : z32.length = 32 := List.length_replicate
theorem rcv_len {a : Nat} {h : List UInt8} {s : ByteArray} (hh : h.length = 32) : (rcv a h s).length = 34 := by simp [rcv, bcs_length, hh]
theorem rcv_one (a : Nat) (h : List UInt8) (s : ByteArray) : ∀ v ∈ rcv a h s, v.oneCell' = true := by
  intro v hv
  simp only [rcv, List.mem_cons, List.mem_append, List.not_mem_nil, or_false] at hv
  rcases hv with rfl | hv | rfl
  · rfl
  · exact bcs_one h v hv
  · rfl
theorem rcv_at (a : Nat) (h : List UInt8) (s : ByteArray) : (rcv a h s)[0]? = some (.int .i64 a) := rfl
theorem rcv_data {a : Nat} {h : List UInt8} {s : ByteArray} (hh : h.length = 32) : (rcv a h s)[33]? = some (.string s) := by
  rw [rcv, List.getElem?_cons_succ, List.getElem?_append_right (by rw [bcs_length, hh]; exact Nat.le_refl _), bcs_length, hh]
  rfl
theorem rcv_set {a : Nat} {h : List UInt8} {s s' : ByteArray} (hh : h.length = 32) : (rcv a h s).toArray.setIfInBounds 33 (.string s') = (rcv a h s').toArray := by
  have hb : (bcs h).length = 32 := by rw [bcs_length, hh]
  rw [List.setIfInBounds_toArray, rcv, List.set_cons_succ, List.set_append_right _ _ (by omega), hb]
  rfl
theorem info_rec : (Tryd.prog.info? 49).map (·.size) = some 34 := by kernel_rfl
theorem zRec : ZeroN Tryd.prog 49 34 := by unfold ZeroN; kernel_rfl
theorem zHash : ZeroN Tryd.prog 44 32 := by unfold ZeroN; kernel_rfl
theorem built_eq (parts : List (Nat × Value)) : Tryd.prog.built 49 parts = Instr.fill (fun x => (#[(0, 1), (1, 32), (33, 1)] : Array (Nat × Nat))[x]?) (rcv 0 z32 e0).toArray parts := by kernel_rfl
section
variable {a : Nat} {h : List UInt8} {s : ByteArray}
theorem fill_at (hh : h.length = 32) (b : Nat) (rest : List (Nat × Value)) : Instr.fill (fun x => (#[(0, 1), (1, 32), (33, 1)] : Array (Nat × Nat))[x]?) (rcv a h s).toArray ((0, .int .i64 b) :: rest) = Instr.fill (fun x => (#[(0, 1), (1, 32), (33, 1)] : Array (Nat × Nat))[x]?) (rcv b h s).toArray rest := by
  rw [fill_one [.int .i64 b] (off := 0) (n := 1) rfl rfl rfl (by rw [rcv_len hh]; omega)]
  simp [rcv]
theorem fill_hs (hh : h.length = 32) {k : List UInt8} (hk : k.length = 32) (rest : List (Nat × Value)) : Instr.fill (fun x => (#[(0, 1), (1, 32), (33, 1)] : Array (Nat × Nat))[x]?) (rcv a h s).toArray ((1, .agg (bcs k).toArray) :: rest) = Instr.fill (fun x => (#[(0, 1), (1, 32), (33, 1)] : Array (Nat × Nat))[x]?) (rcv a k s).toArray rest := by
  rw [fill_one (bcs k) (off := 1) (n := 32) rfl rfl (by rw [bcs_length, hk]) (by rw [rcv_len hh]; omega)]
  have e1 : (rcv a h s).take 1 = [.int .i64 a] := rfl
  have e2 : (rcv a h s).drop (1 + 32) = [.string s] := by
    have : (rcv a h s).drop 1 = bcs h ++ [.string s] := rfl
    rw [← List.drop_drop, this, List.drop_append_of_le_length (by rw [bcs_length, hh]; exact Nat.le_refl _), List.drop_eq_nil_of_le (by rw [bcs_length, hh]; exact Nat.le_refl _)]
    rfl
  rw [e1, e2]
  simp [rcv]
theorem fill_data (hh : h.length = 32) (k : ByteArray) (rest : List (Nat × Value)) : Instr.fill (fun x => (#[(0, 1), (1, 32), (33, 1)] : Array (Nat × Nat))[x]?) (rcv a h s).toArray ((2, .string k) :: rest) = Instr.fill (fun x => (#[(0, 1), (1, 32), (33, 1)] : Array (Nat × Nat))[x]?) (rcv a h k).toArray rest := by
  rw [fill_one [.string k] (off := 33) (n := 1) rfl rfl rfl (by rw [rcv_len hh]; exact Nat.le_refl _)]
  have hb : (bcs h).length = 32 := by rw [bcs_length, hh]
  have e0 : rcv a h s = (.int .i64 a :: bcs h) ++ [.string s] := by simp [rcv]
  have hl : (.int .i64 a :: bcs h : List Value).length = 33 := by simp [hb]
  have e1 : (rcv a h s).take 33 = .int .i64 a :: bcs h := by rw [e0, List.take_append_of_le_length (by omega), List.take_of_length_le (by omega)]
  have e2 : (rcv a h s).drop (33 + 1) = [] := List.drop_eq_nil_of_le (by rw [rcv_len hh]; exact Nat.le_refl _)
  rw [e1, e2]
  simp [rcv]
end
theorem built2 (a : Nat) (h : List UInt8) (hh : h.length = 32) : Tryd.prog.built 49 [(0, .int .i64 a), (1, .agg (bcs h).toArray)] = some (rcv a h e0).toArray := by
  rw [built_eq, fill_at z32_len, fill_hs z32_len hh]
  rfl
theorem built0 : Tryd.prog.built 49 [] = some (rcv 0 z32 e0).toArray := by rw [built_eq]; rfl
theorem built3 (a : Nat) (h : List UInt8) (s : ByteArray) (hh : h.length = 32) : Tryd.prog.built 49 [(0, .int .i64 a), (1, .agg (bcs h).toArray), (2, .string s)] = some (rcv a h s).toArray := by
  rw [built_eq, fill_at z32_len, fill_hs z32_len hh, fill_data hh]
  rfl
theorem built12 (h : List UInt8) (s : ByteArray) (hh : h.length = 32) : Tryd.prog.built 49 [(1, .agg (bcs h).toArray), (2, .string s)] = some (rcv 0 h s).toArray := by
  rw [built_eq, fill_hs z32_len hh, fill_data hh]
  rfl
/-- A hash of one byte. -/
def h1 (x : UInt8) : List UInt8 := x :: List.replicate 31 0
theorem h1_len (x : UInt8) : (h1 x).length = 32 := rfl
theorem built_h1 (x : UInt8) : Tryd.prog.built 44 [(0, .int .u8 x.toNat)] = some (bcs (h1 x)).toArray := by kernel_rfl
theorem built_h0 : Tryd.prog.built 44 [] = some (bcs z32).toArray := by kernel_rfl
theorem zero_rc : (#[Value.int IntKind.i64 0, Value.int IntKind.u8 0, Value.int IntKind.u8 0, Value.int IntKind.u8 0, Value.int IntKind.u8 0, Value.int IntKind.u8 0, Value.int IntKind.u8 0, Value.int IntKind.u8 0, Value.int IntKind.u8 0, Value.int IntKind.u8 0, Value.int IntKind.u8 0, Value.int IntKind.u8 0, Value.int IntKind.u8 0, Value.int IntKind.u8 0, Value.int IntKind.u8 0, Value.int IntKind.u8 0, Value.int IntKind.u8 0, Value.int IntKind.u8 0, Value.int IntKind.u8 0, Value.int IntKind.u8 0, Value.int IntKind.u8 0, Value.int IntKind.u8 0, Value.int IntKind.u8 0, Value.int IntKind.u8 0, Value.int IntKind.u8 0, Value.int IntKind.u8 0, Value.int IntKind.u8 0, Value.int IntKind.u8 0, Value.int IntKind.u8 0, Value.int IntKind.u8 0, Value.int IntKind.u8 0, Value.int IntKind.u8 0, Value.int IntKind.u8 0, Value.string { data := #[] }] : Array Value) = (rcv 0 z32 e0).toArray := rfl
theorem zero_hs : (#[Value.int IntKind.u8 0, Value.int IntKind.u8 0, Value.int IntKind.u8 0, Value.int IntKind.u8 0, Value.int IntKind.u8 0, Value.int IntKind.u8 0, Value.int IntKind.u8 0, Value.int IntKind.u8 0, Value.int IntKind.u8 0, Value.int IntKind.u8 0, Value.int IntKind.u8 0, Value.int IntKind.u8 0, Value.int IntKind.u8 0, Value.int IntKind.u8 0, Value.int IntKind.u8 0, Value.int IntKind.u8 0, Value.int IntKind.u8 0, Value.int IntKind.u8 0, Value.int IntKind.u8 0, Value.int IntKind.u8 0, Value.int IntKind.u8 0, Value.int IntKind.u8 0, Value.int IntKind.u8 0, Value.int IntKind.u8 0, Value.int IntKind.u8 0, Value.int IntKind.u8 0, Value.int IntKind.u8 0, Value.int IntKind.u8 0, Value.int IntKind.u8 0, Value.int IntKind.u8 0, Value.int IntKind.u8 0, Value.int IntKind.u8 0] : Array Value) = (bcs z32).toArray := rfl
end Go.Proofs.YtcgfnfejacgaeaaDoor
