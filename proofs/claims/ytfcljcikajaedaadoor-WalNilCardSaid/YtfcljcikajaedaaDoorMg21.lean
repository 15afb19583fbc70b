/- A new disk. No condition. -/
import Derived.Test.YtfcljcikajaedaaDoorMg20
import Derived.Laws.MakeOwn
namespace Go.Proofs.YtfcljcikajaedaaDoor
open Go.RowKit Go.Maps

def zsec : List UInt8 := List.replicate 512 0
theorem zsec_length : zsec.length = 512 := List.length_replicate
theorem bcs_rep (n : Nat) (x : UInt8) : bcs (List.replicate n x) = List.replicate n (.int .u8 x.toNat) := by simp [bcs]
theorem bcs_zsec : bcs zsec = List.replicate 512 (.int .u8 0) := bcs_rep 512 0
theorem dmade_rep (k m : Nat) (hk : 0 < k) (z : Value) : madeCells (List.replicate k z).toArray m = (List.replicate m z).toArray := by
  apply Array.ext
  · simp [madeCells]
  · intro i h1 h2
    have hm : i % k < (List.replicate k z).toArray.size := by simpa using Nat.mod_lt i hk
    have e : (List.replicate k z).toArray[i % (List.replicate k z).toArray.size]! = z := by
      rw [show (List.replicate k z).toArray.size = k by simp]
      rw [getElem!_pos (List.replicate k z).toArray (i % k) hm]
      simp
    simp only [madeCells, Array.getElem_map, Array.getElem_range, e]
    simp
def disZ : Value → Bool
  | .int .u8 n => n == 0
  | _ => false
theorem isZ_eq {v : Value} (h : disZ v = true) : v = .int .u8 0 := by
  unfold disZ at h
  split at h
  · next n => rw [eq_of_beq h]
  · cases h
set_option maxRecDepth 100000 in
theorem secInfo : ∃ i, Tryd.prog.info? 91 = some i ∧ i.zero = some (.agg (bcs zsec).toArray) ∧ i.size = 512 ∧ i.bytes = 512 := by
  have h : (match Tryd.prog.info? 91 with | some i => (match i.zero with | some (.agg cs) => cs.toList.length == 512 && i.size == 512 && i.bytes == 512 && cs.toList.all disZ | _ => false) | none => false) = true := by kernel_rfl
  cases hi : Tryd.prog.info? 91 with
  | none => rw [hi] at h; cases h
  | some i =>
    rw [hi] at h
    dsimp only at h
    split at h
    · next cs hz =>
      simp only [Bool.and_eq_true, beq_iff_eq] at h
      obtain ⟨⟨⟨h1, h2⟩, h3⟩, h4⟩ := h
      refine ⟨i, rfl, ?_, h2, h3⟩
      rw [hz]
      congr 2
      apply Array.toList_inj.1
      rw [List.toList_toArray]
      rw [bcs_zsec, List.eq_replicate_iff]
      exact ⟨h1, fun v hv => isZ_eq (List.all_eq_true.1 h4 v hv)⟩
    · cases h
theorem onCells_zero (n : Nat) : onCells (List.replicate n zsec) = List.replicate (n * 512) (.int .u8 0) := by
  induction n with
  | zero => rfl
  | succ n ih =>
    show bcs zsec ++ onCells (List.replicate n zsec) = _
    rw [ih, bcs_zsec, List.replicate_append_replicate]
    congr 1; omega
theorem made_zero (n : Nat) : madeCells (bcs zsec).toArray (n * 512) = (onCells (List.replicate n zsec)).toArray := by
  rw [onCells_zero, bcs_zsec, dmade_rep _ _ (by decide)]
/-- A new disk of so many sectors. -/
def newDm (n : Nat) : Dm := ⟨List.replicate n zsec, [], true, false, 0, [], 0⟩
theorem newDm_ok (n : Nat) (h1 : 1 ≤ n) (h2 : n ≤ 4096) : (newDm n).ok :=
  ⟨by simpa [newDm] using h2, by simpa [newDm] using h1, fun s hs => by rw [(List.mem_replicate.1 hs).2, zsec_length], by simp [newDm], by simp [newDm], by simp [newDm], by simp [newDm], by simp [newDm], by simp [newDm]⟩

theorem new_arg (n : Int) (h : n < 1 ∨ 4096 < n) (w : World) :
    Calls Tryd.prog 12 #[.int .i64 n] w fun e w' => e = .returned (.tuple #[.pointer none, .int .i64 2]) ∧ w = w' := by
  by_cases h1 : n < 1
  · go_enter Tryd.func12, Tryd.ntmps12
    go_wp2_with fail
    go_ret2
    exact ⟨rfl, rfl⟩
  · have h2 : 4096 < n := by omega
    clear h
    go_enter Tryd.func12, Tryd.ntmps12
    go_wp2_with fail
    go_ret2
    exact ⟨rfl, rfl⟩
set_option maxHeartbeats 1000000 in
theorem dnew_any (n : Nat) (h1 : 1 ≤ n) (h2 : n ≤ 4096) (w : World) :
    Calls Tryd.prog 12 #[.int .i64 n] w fun e w' => ∃ b, e = .returned (.tuple #[.pointer (some ⟨b, 0, none⟩), .int .i64 0]) ∧ Dsk (fun k => w.heap.size ≤ k) w' b (newDm n) ∧ Kp (fun _ => False) w w' := by
  obtain ⟨i, i1, i2, i3, i4⟩ := secInfo
  have hmk : (Instr.makeSlice 56 (.int .i64 n) (.int .i64 n)).run Tryd.prog w = .ok (.slice (some ⟨w.heap.size, 0, none⟩) n n) (w.alloc (.cells (onCells (List.replicate n zsec)).toArray 91)) := by
    have := run_make (P := Tryd.prog) w 56 _ i _ Tryd.underlying56 i1 i2 .i64 .i64 n n (by omega) (by omega) (by rw [i4]; omega) (by omega)
    rw [i3] at this
    simpa [Value.cells, made_zero] using this
  have hmm := @run_makeMap Tryd.prog
  have hn1 : ¬ ((n : Int) < 1) := by omega
  have hn2 : ¬ ((4096 : Int) < n) := by omega
  clear i1 i2 i3 i4
  go_enter Tryd.func12, Tryd.ntmps12
  go_wp2_with fail
  go_ret2
  have hb0 := ((Box.new w 91 (onCells (List.replicate n zsec)).toArray).alloc (.map #[] 0))
  have k0 : Kp (fun _ => False) w ((w.alloc (.cells (onCells (List.replicate n zsec)).toArray 91)).alloc (.map #[] 0)) := ((Kp.refl (fun _ => False) w).alloc _).alloc _
  have hm0 : Nm ((w.alloc (.cells (onCells (List.replicate n zsec)).toArray 91)).alloc (.map #[] 0)) (w.heap.size + 1) [] := by
    have := World.ownsMap_made (w.alloc (.cells (onCells (List.replicate n zsec)).toArray 91)) Tryd.prog 3 (plainElem (H := Unit) Tryd.prog 3)
    rw [World.size_alloc] at this
    exact ⟨0, _, this, Nat.le_refl _, fun a => ⟨rfl, fun i hi => by simp [lastOf] at hi⟩⟩
  have hst : ((w.alloc (.cells (onCells (List.replicate n zsec)).toArray 91)).alloc (.map #[] 0)).ownsRow 0 91 512 (.slice (some ⟨w.heap.size, 0, none⟩) n n) n (onCells (List.replicate n zsec)) := by
    have hl : (onCells (List.replicate n zsec)).length = n * 512 := by rw [onCells_zero, List.length_replicate]
    refine ⟨hl, .inr ⟨w.heap.size, n, _, rfl, Nat.zero_le _, hb0, Nat.le_refl _, by simp only [maxLen]; omega, by simpa using hl, ?_⟩⟩
    rw [List.toList_toArray, List.take_of_length_le (by omega)]
  generalize hW : (w.alloc (.cells (onCells (List.replicate n zsec)).toArray 91)).alloc (.map #[] 0) = W at *
  have hsz : W.heap.size = w.heap.size + 2 := by rw [← hW]; simp
  have hbd := Box.new W 62 (dcs (newDm n) (.slice (some ⟨w.heap.size, 0, none⟩) n n) (.slice none 0 0) (w.heap.size + 1))
  have kd : Kp (fun _ => False) W (W.alloc (.cells (dcs (newDm n) (.slice (some ⟨w.heap.size, 0, none⟩) n n) (.slice none 0 0) (w.heap.size + 1)) 62)) := (Kp.refl _ W).alloc _
  refine ⟨W.heap.size, ?_, ⟨.slice (some ⟨w.heap.size, 0, none⟩) n n, .slice none 0 0, w.heap.size + 1, ⟨newDm_ok n h1 h2, hbd, ?_, World.ownsRow_nil _ _ _ _, hm0.kp kd (fun h => h)⟩, ?_⟩, k0.trans kd⟩
  · rw [hsz]; rfl
  · have hst2 := down_kp hst kd (fun _ _ h => h)
    have e : (newDm n).on.length = n := by simp [newDm]
    rw [e]
    exact hst2
  · rintro k (rfl | e | e | rfl)
    · show _ ≤ _; omega
    · simp [Value.ownBlock] at e; show _ ≤ _; omega
    · simp [Value.ownBlock] at e
    · show _ ≤ _; omega
end Go.Proofs.YtfcljcikajaedaaDoor
