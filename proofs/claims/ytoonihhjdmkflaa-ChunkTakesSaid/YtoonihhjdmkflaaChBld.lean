/- Children built out of their parts. No condition. -/
import Derived.Test.YtoonihhjdmkflaaChHt
namespace Go.Proofs.Ytoonihhjdmkflaa
open Go.RowKit

theorem built_eq (parts : List (Nat × Value)) : Try.prog.built 46 parts = Instr.fill (fun x => (#[(0, 1), (1, 1), (2, 32), (34, 1), (35, 1)] : Array (Nat × Nat))[x]?) (kcs kd0).toArray parts := by kernel_rfl
theorem kcs_split (k : Kd) : kcs k = [.string k.name] ++ ([.bool k.dir] ++ (bcs k.hash ++ ([.int .u8 k.ht] ++ [.int .u32 k.sz]))) := by simp [kcs]
theorem fill_hash {k : Kd} (hk : k.Ok) {h : List UInt8} (hh : h.length = 32) (rest : List (Nat × Value)) : Instr.fill (fun x => (#[(0, 1), (1, 1), (2, 32), (34, 1), (35, 1)] : Array (Nat × Nat))[x]?) (kcs k).toArray ((2, .agg (bcs h).toArray) :: rest) = Instr.fill (fun x => (#[(0, 1), (1, 1), (2, 32), (34, 1), (35, 1)] : Array (Nat × Nat))[x]?) (kcs { k with hash := h }).toArray rest := by
  rw [fill_one (bcs h) (off := 2) (n := 32) rfl rfl (by rw [bcs_length, hh]) (by rw [kcs_len hk]; omega)]
  have e1 : (kcs k).take 2 = [.string k.name, .bool k.dir] := rfl
  have e2 : (kcs k).drop (2 + 32) = [.int .u8 k.ht, .int .u32 k.sz] := by
    have : (kcs k).drop 2 = bcs k.hash ++ [.int .u8 k.ht, .int .u32 k.sz] := rfl
    rw [← List.drop_drop, this, List.drop_append_of_le_length (by rw [bcs_length, hk.1]; exact Nat.le_refl _), List.drop_eq_nil_of_le (by rw [bcs_length, hk.1]; exact Nat.le_refl _)]
    rfl
  rw [e1, e2]
  simp [kcs]
theorem fill_ht {k : Kd} (hk : k.Ok) (a : Nat) (rest : List (Nat × Value)) : Instr.fill (fun x => (#[(0, 1), (1, 1), (2, 32), (34, 1), (35, 1)] : Array (Nat × Nat))[x]?) (kcs k).toArray ((3, .int .u8 a) :: rest) = Instr.fill (fun x => (#[(0, 1), (1, 1), (2, 32), (34, 1), (35, 1)] : Array (Nat × Nat))[x]?) (kcs { k with ht := a }).toArray rest := by
  have hb : (bcs k.hash).length = 32 := by rw [bcs_length, hk.1]
  rw [fill_one [.int .u8 a] (off := 34) (n := 1) rfl rfl rfl (by rw [kcs_len hk]; omega)]
  have e0 : kcs k = ([.string k.name, .bool k.dir] ++ bcs k.hash) ++ ([.int .u8 k.ht] ++ [.int .u32 k.sz]) := by simp [kcs]
  have hl : ([.string k.name, .bool k.dir] ++ bcs k.hash : List Value).length = 34 := by simp [hb]
  have e1 : (kcs k).take 34 = [.string k.name, .bool k.dir] ++ bcs k.hash := by rw [e0, List.take_append_of_le_length (by omega), List.take_of_length_le (by omega)]
  have e2 : (kcs k).drop (34 + 1) = [.int .u32 k.sz] := by rw [e0, List.drop_append, List.drop_eq_nil_of_le (by omega), hl]; rfl
  rw [e1, e2]
  simp [kcs]
theorem fill_sz {k : Kd} (hk : k.Ok) (a : Nat) (rest : List (Nat × Value)) : Instr.fill (fun x => (#[(0, 1), (1, 1), (2, 32), (34, 1), (35, 1)] : Array (Nat × Nat))[x]?) (kcs k).toArray ((4, .int .u32 a) :: rest) = Instr.fill (fun x => (#[(0, 1), (1, 1), (2, 32), (34, 1), (35, 1)] : Array (Nat × Nat))[x]?) (kcs { k with sz := a }).toArray rest := by
  have hb : (bcs k.hash).length = 32 := by rw [bcs_length, hk.1]
  rw [fill_one [.int .u32 a] (off := 35) (n := 1) rfl rfl rfl (by rw [kcs_len hk]; omega)]
  have e0 : kcs k = ([.string k.name, .bool k.dir] ++ bcs k.hash ++ [.int .u8 k.ht]) ++ [.int .u32 k.sz] := by simp [kcs]
  have hl : ([.string k.name, .bool k.dir] ++ bcs k.hash ++ [.int .u8 k.ht] : List Value).length = 35 := by simp [hb]
  have e1 : (kcs k).take 35 = [.string k.name, .bool k.dir] ++ bcs k.hash ++ [.int .u8 k.ht] := by rw [e0, List.take_append_of_le_length (by omega), List.take_of_length_le (by omega)]
  have e2 : (kcs k).drop (35 + 1) = [] := List.drop_eq_nil_of_le (by rw [kcs_len hk]; omega)
  rw [e1, e2]
  simp [kcs]
theorem fill_name {k : Kd} (s : ByteArray) (d : Bool) (hk : k.Ok) (rest : List (Nat × Value)) : Instr.fill (fun x => (#[(0, 1), (1, 1), (2, 32), (34, 1), (35, 1)] : Array (Nat × Nat))[x]?) (kcs k).toArray ((0, .string s) :: (1, .bool d) :: rest) = Instr.fill (fun x => (#[(0, 1), (1, 1), (2, 32), (34, 1), (35, 1)] : Array (Nat × Nat))[x]?) (kcs { k with name := s, dir := d }).toArray rest := by
  rw [fill_one [.string s] (off := 0) (n := 1) rfl rfl rfl (by rw [kcs_len hk]; omega)]
  rw [fill_one [.bool d] (off := 1) (n := 1) rfl rfl rfl (by simp; rw [kcs_len hk]; omega)]
  simp [kcs]
theorem built_kid (h : List UInt8) (hh : h.length = 32) (a b : Nat) (ha : a < 256) : Try.prog.built 46 [(2, .agg (bcs h).toArray), (3, .int .u8 a), (4, .int .u32 b)] = some (kcs ⟨⟨#[]⟩, false, h, a, b⟩).toArray := by
  rw [built_eq, fill_hash kd0_ok hh, fill_ht (k := ⟨kd0.name, kd0.dir, h, kd0.ht, kd0.sz⟩) ⟨hh, by simp [kd0], by simp [kd0]⟩, fill_sz (k := ⟨kd0.name, kd0.dir, h, a, kd0.sz⟩) ⟨hh, ha, by simp [kd0]⟩]
  rfl
theorem built_kid5 (k : Kd) (hk : k.Ok) : Try.prog.built 46 [(0, .string k.name), (1, .bool k.dir), (2, .agg (bcs k.hash).toArray), (3, .int .u8 k.ht), (4, .int .u32 k.sz)] = some (kcs k).toArray := by
  rw [built_eq, fill_name _ _ kd0_ok, fill_hash (k := ⟨k.name, k.dir, kd0.hash, kd0.ht, kd0.sz⟩) ⟨kd0_ok.1, kd0_ok.2.1, kd0_ok.2.2⟩ hk.1, fill_ht (k := ⟨k.name, k.dir, k.hash, kd0.ht, kd0.sz⟩) ⟨hk.1, kd0_ok.2.1, kd0_ok.2.2⟩, fill_sz (k := ⟨k.name, k.dir, k.hash, k.ht, kd0.sz⟩) ⟨hk.1, hk.2.1, kd0_ok.2.2⟩]
  rfl
end Go.Proofs.Ytoonihhjdmkflaa
