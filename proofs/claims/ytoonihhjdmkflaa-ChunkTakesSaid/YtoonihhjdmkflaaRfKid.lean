/- A child that the document's own reader makes. No condition. -/
import Derived.Test.YtoonihhjdmkflaaRfMay
import Derived.Test.YtoonihhjdmkflaaRfPut
import Derived.Test.YtoonihhjdmkflaaRfNum
namespace Go.Proofs.Ytoonihhjdmkflaa
open Go.RowKit

/-- A text copied into a child's hash. -/
theorem run_copy_kid {P : Program} (w : World) (dT sT ty elem : TypeId) (hu : P.underlying dT = some (.slice elem)) (hsz : (P.info? elem).map (·.size) = some 1) (g : Nat) (x : List UInt8) (hx : x.length = 32 ∨ x = []) (t : TypeId) (k : Kd) (hk : k.Ok) (hb : Box w g t (kcs k).toArray) :
    ∃ n w', (Builtin.copy_ #[dT, sT] ty #[.slice (some ⟨g, 2, none⟩) 32 32, .string ⟨x.toArray⟩]).run P w = .ok n w' ∧ Box w' g t (kcs { k with hash := if x.length = 32 then x else k.hash }).toArray ∧ Kp (fun q => q = g) w w' := by
  have hlen : List.take (Nat.min (⟨x.toArray⟩ : ByteArray).size 32) ((⟨x.toArray⟩ : ByteArray).data.toList.map fun b => Value.int .u8 b.toNat) = bcs x := by
    rw [← List.map_take, bcs]
    congr 1
    show List.take (min (⟨x.toArray⟩ : ByteArray).size 32) x = x
    rw [rsize]
    rcases hx with h | h
    · rw [h]; exact List.take_of_length_le (by omega)
    · rw [h]; rfl
  have hl2 : (bcs x).length ≤ 32 := by rw [bcs_length]; rcases hx with h | h <;> simp [h]
  have hst := run_storeCells_at (P := P) g 2 t (bcs x) 0 _ w hb (by rw [List.size_toArray, kcs_len hk]; omega) (bcs_one _)
  have he : (kcs k).toArray.toList.take (2 + 0) ++ bcs x ++ (kcs k).toArray.toList.drop (2 + 0 + (bcs x).length) = kcs { k with hash := if x.length = 32 then x else k.hash } := by
    simp only [Nat.add_zero]
    rcases hx with h | h
    · have e1 : (kcs k).take 2 = [.string k.name, .bool k.dir] := rfl
      have e2 : (kcs k).drop (2 + (bcs x).length) = [.int .u8 k.ht, .int .u32 k.sz] := by
        rw [bcs_length, h]
        have : (kcs k).drop 2 = bcs k.hash ++ [.int .u8 k.ht, .int .u32 k.sz] := rfl
        rw [← List.drop_drop, this, List.drop_append_of_le_length (by rw [bcs_length, hk.1]; exact Nat.le_refl _), List.drop_eq_nil_of_le (by rw [bcs_length, hk.1]; exact Nat.le_refl _)]
        rfl
      rw [e1, e2, if_pos h]
      simp [kcs]
    · subst h
      rw [if_neg (by simp)]
      simp [bcs]
  rw [he] at hst
  obtain ⟨i, hi, hi1⟩ : ∃ i, P.info? elem = some i ∧ i.size = 1 := by
    cases hq : P.info? elem with
    | none => simp [hq] at hsz
    | some i => exact ⟨i, rfl, by simpa [hq] using hsz⟩
  refine ⟨goInt (Nat.min (⟨x.toArray⟩ : ByteArray).size 32), w.setRow g _, ?_, setRow_heap w g _ _ t (0, 0) hb, (Kp.refl (fun q => q = g) w).setRow (.inr rfl) _⟩
  · simp [Builtin.copy_, run_underlying hu, sizeOf, typeInfo, hi, Builtin.lenOf, Builtin.firstCells]
    rw [hlen, hst]
    rfl
theorem wpList_copy_kid {P : Program} {ops : Array Oper} {rest : List Oper} {o : Oper} {a : Act} {w : World} {Q : Exit → Act → World → Prop} (hgd : o.guard = none) (d s : Operand) (dT sT : TypeId)
    (ho : o.op = .call { callee := .builtin .copy, args := #[d, s], argTypes := #[dT, sT] }) (elem : TypeId) (hu : P.underlying dT = some (.slice elem)) (hsz : (P.info? elem).map (·.size) = some 1)
    (g : Nat) (hd : a.eval d = .slice (some ⟨g, 2, none⟩) 32 32) (x : List UInt8) (hs : a.eval s = .string ⟨x.toArray⟩) (hx : x.length = 32 ∨ x = []) (t : TypeId) (k : Kd) (hk : k.Ok) (hb : Box w g t (kcs k).toArray)
    (h : ∀ n w', Box w' g t (kcs { k with hash := if x.length = 32 then x else k.hash }).toArray → Kp (fun q => q = g) w w' → wpList P ops Q rest (a.put o.dst n) w') : wpList P ops Q (o :: rest) a w := by
  obtain ⟨n, w', hrun, h1, h2⟩ := run_copy_kid (P := P) w dT sT o.type elem hu hsz g x hx t k hk hb
  refine wpList_plain hgd fun K hK => ?_
  unfold Oper.wp
  simp [execOp, ho, resolve, invoke, builtin, hd, hs, hrun, Result.andThen]
  exact hK _ _ (h n w' h1 h2)
end Go.Proofs.Ytoonihhjdmkflaa
