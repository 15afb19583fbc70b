/- Zeros appended to a row of bytes that the program made itself. The sum is at most 2^47 bytes. -/
import Derived.Test.YtjapnkpicefadaaShBytes
import Derived.Lib.AppendZerosOnto
namespace Go.Proofs.Ytjapnkpicefadaa
open Go.RowKit

theorem zcs_row (k : Nat) : (Builtin.zeroCells (Value.int .u8 0).cells k).toList = List.replicate k (.int .u8 0) := by
  rw [List.eq_replicate_iff]
  refine ⟨by rw [Array.length_toList, size_zeroCells]; simp [Value.cells], fun b hb => ?_⟩
  simp only [Builtin.zeroCells, Value.cells, Array.toList_map, List.mem_map] at hb
  obtain ⟨i, _, rfl⟩ := hb
  simp [Nat.mod_one]
theorem bcs_zeros (k : Nat) : bcs (List.replicate k 0) = List.replicate k (.int .u8 0) := by simp [bcs]
theorem run_zeros {P : Program} (w : World) (t tn ty e : TypeId) (i : TypeInfo) (kn : IntKind) (ht : P.underlying t = some (.slice e)) (htn : P.underlying tn = some (.int kn)) (hi : P.info? e = some i) (hz : i.zero = some (.int .u8 0)) (hsize : i.size = 1) (hby : i.bytes = 1)
    (v : Value) (l : List UInt8) (hl : 0 < l.length) (hown : w.ownsRow 0 e 1 v l.length (bcs l)) (k : Nat) (hlen : l.length + k ≤ 70368744177664) :
    ∃ v' w', (Builtin.append_ #[t, tn] ty #[v, .int .i64 k]).run P w = .ok v' w' ∧ w'.ownsRow 0 e 1 v' (l.length + k) (bcs (l ++ List.replicate k 0)) ∧ w.grownBy w' v.ownBlock ∧ (v'.ownBlock = v.ownBlock ∨ v'.ownBlock = some w.heap.size) := by
  have hb : (bcs (l ++ List.replicate k 0)).length = (l.length + k) * 1 := by rw [bcs_length]; simp
  rcases hown.2 with ⟨_, h0⟩ | ⟨g, cap, cur, rfl, hbg, hg, hnc, hcm, hcs, htake⟩
  · omega
  rw [Nat.mul_one] at hcs htake
  by_cases hroom : l.length + k ≤ cap
  · have hw : IntKind.i64.wrap (k : Int) = k := by rw [IntKind.wrap_i64]; omega
    have hneg : ¬ ((k : Int) < 0) := by omega
    have h48 : ¬ (281474976710656 < (k : Int)) := by omega
    have hfit : l.length + (List.replicate k (Value.int .u8 0)).length ≤ cur.size := by rw [List.length_replicate, hcs]; exact hroom
    have hst := run_storeCells_at P g l.length e (List.replicate k (.int .u8 0)) 0 cur w hg (by simpa using hfit) (fun u hu => by rw [List.eq_of_mem_replicate hu]; rfl)
    simp only [Nat.add_zero] at hst
    refine ⟨.slice (some ⟨g, 0, none⟩) (l.length + k) cap, _, ?_, ⟨hb, .inr ⟨g, cap, _, rfl, hbg, setRow_heap w g cur (cur.toList.take l.length ++ List.replicate k (Value.int .u8 0) ++ cur.toList.drop (l.length + k)).toArray e _ hg, hroom, hcm, ?_, ?_⟩⟩, ⟨rfl, rfl, rfl, by simp, fun j _ hj => setRow_other w g j _ (fun e => hj (by simp [Value.ownBlock, e]))⟩, .inl rfl⟩
    · by_cases hk : k = 0
      · subst hk
        simp only [List.replicate_zero] at hst
        simp [Builtin.append_, run_underlying ht, run_underlying htn, sizeOf, typeInfo, hi, asInt, asIntOf, IntKind.wrap_i64, Addr.add_lit, hnc, hsize, hby, hst]
      · have hns : ¬ (k * 1 = 0) := by omega
        simp [Builtin.append_, run_underlying ht, run_underlying htn, sizeOf, typeInfo, zeroValue, hi, hz, asInt, asIntOf, hw, hneg, h48, hk, hroom, Addr.add_lit, hsize, hby, zcs_row, hst]
    · simp only [List.size_toArray, List.length_append, List.length_take, List.length_drop, Array.length_toList, List.length_replicate]
      omega
    · simp only [bcs_append, bcs_zeros, Nat.mul_one]
      rw [← htake]
      refine List.take_left' ?_
      simp only [List.length_append, List.length_take, List.length_replicate, Array.length_toList]
      omega
  · have hk0 : 0 < k := by omega
    have hold : (Builtin.firstCells i.size l.length (.slice (some ⟨g, 0, none⟩) l.length cap)).run P w.drew = .ok (bcs l).toArray w.drew := by
      refine run_firstCells_some (P := P) w.drew i.size l.length ⟨g, 0, none⟩ l.length cap (bcs l) (by rw [bcs_length, hsize, Nat.mul_one]) fun j u hu => ?_
      exact hown.cells (g := g) rfl j u hu
    have hnx : Builtin.nextslicecap (l.length + k) cap * i.bytes ≤ 281474976710656 := by
      rw [hby, Nat.mul_one]
      unfold Builtin.nextslicecap
      have hgrow : ∀ r c, c < l.length + k → Builtin.growBy (l.length + k) r c ≤ 2 * (l.length + k) + 768 := by
        intro r
        induction r with
        | zero => intro c hc; simp only [Builtin.growBy]; omega
        | succ r ih =>
          intro c hc
          simp only [Builtin.growBy]
          split
          · omega
          · rcases Nat.lt_or_ge (c + (c + 768) / 4) (l.length + k) with h | h
            · exact ih _ h
            · cases r with
              | zero => simp only [Builtin.growBy]; omega
              | succ r => simp only [Builtin.growBy]; rw [if_pos h]; omega
      split
      · omega
      · split
        · omega
        · have := hgrow 4 cap (by omega)
          omega
    have hr := Lib.run_append_grow_zeros (P := P) w t tn ty e i _ .i64 kn ht htn hi hz (some ⟨g, 0, none⟩) l.length cap (bcs l) hold k hk0 (by omega) (by omega) (by omega) (by rw [hby]; omega) hnx
    have hge := grownCap_ge w (l.length + k) cap e
    have hcm' : grownCap w (l.length + k) cap e ≤ maxLen := grownCap_le_maxLen w (l.length + k) cap e (by simp only [maxLen]; omega)
    refine ⟨_, _, hr, ⟨hb, .inr ⟨w.heap.size, _, _, rfl, Nat.zero_le _, heap_alloc_new w.drew _, hge, hcm', ?_, ?_⟩⟩, ⟨rfl, rfl, rfl, by simp, fun j hj _ => heap_alloc_old w.drew _ hj⟩, .inr rfl⟩
    · simp only [Array.size_append, List.size_toArray, size_zeroCells, bcs_length, Value.cells, List.size_toArray, List.length_cons, List.length_nil]
      omega
    · simp only [Array.toList_append, Nat.mul_one, bcs_append, bcs_zeros, zcs_row]
      refine List.take_left' ?_
      rw [List.length_append, List.length_replicate, bcs_length]
end Go.Proofs.Ytjapnkpicefadaa
