/- Arrays of 32 bytes by value, and what the opener's three readers tell. -/
import Derived.Test.YtoonihhjdmkflaaTake
import Derived.Deep.MidRow
import Derived.Deep.WholeRow
namespace Go.Proofs.Ytoonihhjdmkflaa
open Go.RowKit

theorem bcs_all (l : List UInt8) : (bcs l).toArray.all (·.oneCell') = true := all_oneCell_toArray (bcs_one l)
theorem info_hash : (Try.prog.info? 43).map (·.size) = some 32 := by kernel_rfl
theorem Rd.range {w : World} {b o : Nat} {l : List UInt8} (hc : ∀ j u, l[j]? = some u → w.cell? ⟨b, o + j, none⟩ = some (.int .u8 u.toNat)) : w.rangeAt b o (bcs l) := by
  intro j v hj
  rw [bcs_get] at hj
  obtain ⟨u, hu, rfl⟩ := Option.map_eq_some_iff.1 hj
  exact hc j u hu
/-- A whole hash into the block that was made last. -/
theorem store_hash (w : World) (l : List UInt8) (h : l.length = 32) :
    (storeCells ⟨w.heap.size, 0, none⟩ (bcs l) 0).run Try.prog (w.alloc (.cells #[Value.int IntKind.u8 0, Value.int IntKind.u8 0, Value.int IntKind.u8 0, Value.int IntKind.u8 0, Value.int IntKind.u8 0, Value.int IntKind.u8 0, Value.int IntKind.u8 0, Value.int IntKind.u8 0, Value.int IntKind.u8 0, Value.int IntKind.u8 0, Value.int IntKind.u8 0, Value.int IntKind.u8 0, Value.int IntKind.u8 0, Value.int IntKind.u8 0, Value.int IntKind.u8 0, Value.int IntKind.u8 0, Value.int IntKind.u8 0, Value.int IntKind.u8 0, Value.int IntKind.u8 0, Value.int IntKind.u8 0, Value.int IntKind.u8 0, Value.int IntKind.u8 0, Value.int IntKind.u8 0, Value.int IntKind.u8 0, Value.int IntKind.u8 0, Value.int IntKind.u8 0, Value.int IntKind.u8 0, Value.int IntKind.u8 0, Value.int IntKind.u8 0, Value.int IntKind.u8 0, Value.int IntKind.u8 0, Value.int IntKind.u8 0] 43)) = .ok () (w.alloc (.cells (bcs l).toArray 43)) := by
  have hs : (bcs l).toArray.size = 32 := by simp [bcs_length, h]
  have := run_storeCells_new (P := Try.prog) w 43 #[Value.int IntKind.u8 0, Value.int IntKind.u8 0, Value.int IntKind.u8 0, Value.int IntKind.u8 0, Value.int IntKind.u8 0, Value.int IntKind.u8 0, Value.int IntKind.u8 0, Value.int IntKind.u8 0, Value.int IntKind.u8 0, Value.int IntKind.u8 0, Value.int IntKind.u8 0, Value.int IntKind.u8 0, Value.int IntKind.u8 0, Value.int IntKind.u8 0, Value.int IntKind.u8 0, Value.int IntKind.u8 0, Value.int IntKind.u8 0, Value.int IntKind.u8 0, Value.int IntKind.u8 0, Value.int IntKind.u8 0, Value.int IntKind.u8 0, Value.int IntKind.u8 0, Value.int IntKind.u8 0, Value.int IntKind.u8 0, Value.int IntKind.u8 0, Value.int IntKind.u8 0, Value.int IntKind.u8 0, Value.int IntKind.u8 0, Value.int IntKind.u8 0, Value.int IntKind.u8 0, Value.int IntKind.u8 0, Value.int IntKind.u8 0] (bcs l).toArray (by rw [hs]; exact info_hash) (by rw [hs]; rfl) (bcs_all l)
  simpa using this

set_option maxHeartbeats 400000 in
theorem text1_rd (A : Option Addr) (c : Nat) (l : List UInt8) (w : World) (h : Rd w A l) :
    Calls Try.prog 52 #[.slice A l.length c] w fun e w' => e = .returned (.string ⟨l.toArray⟩) ∧ w = w' := by
  have hcv := h.text 29 9 5 c Try.underlying29 Try.underlying5 Try.underlying9
  go_enter Try.func52, Try.ntmps52
  go_wp2
  go_ret
  exact ⟨rfl, rfl⟩

set_option maxHeartbeats 400000 in
theorem name1_rd (A : Option Addr) (c : Nat) (x : UInt8) (l : List UInt8) (w : World) (hl : l.length + 1 ≤ c) (hm : c ≤ maxLen) (h : Rd w A (x :: l)) :
    Calls Try.prog 58 #[.slice A (l.length + 1) c] w fun e w' => e = .returned (.string ⟨l.toArray⟩) ∧ w = w' := by
  have hd := h.drop (n := 1) (cap := c) (by simpa using hl)
  have hcv := hd.text 29 9 5 (c - 1) Try.underlying29 Try.underlying5 Try.underlying9
  simp only [List.drop_one, List.tail_cons] at hcv
  unfold maxLen at hm
  have Hd : Hid (∃ b o, A = some ⟨b, o, none⟩) := by
    rcases h with h | ⟨b, o, e, _⟩
    · cases h
    · exact ⟨b, o, e⟩
  clear hd h
  by_cases hc1 : c = 1
  · rw [if_pos hc1] at hcv
    subst hc1
    obtain rfl : l = [] := List.eq_nil_of_length_eq_zero (by omega)
    simp only [List.length_nil, Nat.sub_self] at hcv
    go_enter Try.func58, Try.ntmps58
    go_wp2
    go_ret
    exact ⟨rfl, rfl⟩
  · rw [if_neg hc1] at hcv
    obtain ⟨b, o, rfl⟩ := Hd.out
    have e1 : Option.map (fun (x : Addr) => x.add 1) (some ⟨b, o, none⟩) = some ⟨b, o + 1, none⟩ := by simp [Addr.add]
    rw [e1] at hcv
    go_enter Try.func58, Try.ntmps58
    go_wp2
    go_ret
    exact ⟨rfl, rfl⟩

set_option maxHeartbeats 400000 in
theorem hash1_rd (A : Option Addr) (c : Nat) (l : List UInt8) (w : World) (h : Rd w A l) (h32 : l.length = 32) :
    Calls Try.prog 60 #[.slice A 32 c] w fun e w' => e = .returned (.agg (bcs l).toArray) ∧ w.alloc (.cells (bcs l).toArray 43) = w' := by
  have hat : ∀ w, (Instr.arrayAt 43 (.slice A 32 c)).run Try.prog w = .ok (.pointer A) w := fun w => run_arrayAt w 43 _ 32 _ 32 c Try.underlying43 (by omega)
  have hst := store_hash w l h32
  have hres : Try.f60.results = #[.cell 2 43] := by kernel_rfl
  have hlen : (bcs l).length = 32 := by rw [bcs_length, h32]
  rcases h with rfl | ⟨b, o, rfl, hc⟩
  · simp at h32
  have hr := (Rd.range hc)
  have H := Lib.hid hr
  have Hr := Lib.hid hres
  clear hr hc h32 hres
  go_enter Try.func60, Try.ntmps60
  go_wp2_with (refine wpList_load_mid rfl _ (.tmp 4) rfl b o rfl (bcs l) _ ?c1 Try.underlying43 rfl ?c2 ?_)
  case c1 =>
    intro j v hj
    have hj' := H.out j v hj
    rw [World.cell?_alloc_lt _ _ _ (World.block_lt_of_cell? _ _ hj')]
    exact hj'
  case c2 => rw [hlen]; exact info_hash
  refine bodyPost_ret (v := .agg (bcs l).toArray) ?_ rfl ⟨rfl, rfl⟩
  exact results_cell_row Hr.out _ _ w.heap.size _ _ (0, 0) _ rfl (heap_alloc_last w _) Try.underlying43 rfl (by simpa [hlen] using info_hash)

end Go.Proofs.Ytoonihhjdmkflaa
