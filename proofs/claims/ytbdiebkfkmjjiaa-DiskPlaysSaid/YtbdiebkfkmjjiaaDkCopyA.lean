/- Clones: of sectors, of writes that wait, of the newest ones. Conditions: at most 4096 sectors, fewer than 2^30 writes. -/
import Derived.Test.YtbdiebkfkmjjiaaDkRefN
import Derived.Shelf.SlMaps.Clone
namespace Go.Proofs.Ytbdiebkfkmjjiaa
open Go.RowKit Go.Maps

theorem own_base {w : World} {B : Nat} {e : TypeId} {size n : Nat} {v : Value} {xs : List Value} (h : w.ownsRow B e size v n xs) : w.ownsRow 0 e size v n xs := by
  refine ⟨h.1, ?_⟩
  rcases h.2 with h0 | ⟨g, cap, cur, rfl, _, r⟩
  · exact .inl h0
  · exact .inr ⟨g, cap, cur, rfl, Nat.zero_le _, r⟩
set_option maxRecDepth 100000 in
set_option maxHeartbeats 1000000 in
theorem clone_m {w : World} {g : Nat} {l : List (Nat × List UInt8)} (h : Nm w g l) :
    Calls Try.prog 29 #[.map (some g)] w fun e w' => e = .returned (.map (some w.heap.size)) ∧ Nm w' w.heap.size l ∧ Kp (fun _ => False) w w' := by
  obtain ⟨n, D, ⟨es, clock, hb, FF, hs, hD⟩, hn, hl⟩ := h
  have hq := fun w => run_eql_map_nil_sl (P := Try.prog) w 60 _ _ (some g) Try.underlying60
  have HL := Lib.hid hl
  have HN := Lib.hid hn
  have HS := Lib.hid hs
  have HD := Lib.hid hD
  clear hl hn hs hD
  go_enter Try.func29, Try.ntmps29
  go_wp2
  rw [run_callFunc_extern Try.func46 (by kernel_rfl) (by kernel_rfl) (by kernel_rfl) (e := Extern.MapsClone.clone) (by kernel_rfl), run_maps_clone_sl w 60 hb]
  simp only [Result.andThen]
  rw [Oper.upon_value]
  go_wp2
  rw [run_typeAssert_map_sl _ 60 _ _ _ _ Try.underlying60]
  simp only [Result.andThen]
  rw [Oper.upon_value]
  go_wp2
  go_ret
  exact ⟨rfl, ⟨n, D, ⟨es, clock, (MapKept.heap_alloc w _).1, FF, HS.out, HD.out⟩, HN.out, HL.out⟩, (Kp.refl _ w).alloc _⟩
theorem run_equalIn_sl_nil {P : Program} (w : World) (d : Nat) (t e : TypeId) (a : Option Addr) (l c : Nat) (h : P.underlying t = some (.slice e)) : (Op.equalIn (d + 1) t (.slice a l c) (.slice none 0 0)).run P w = .ok a.isNone w := by
  cases a <;> simp [Op.equalIn, run_underlying h]
theorem run_eql_sl_nil {P : Program} (w : World) (t e : TypeId) (a : Option Addr) (l c : Nat) (h : P.underlying t = some (.slice e)) : (binOp .eql t (.slice a l c) (.slice none 0 0)).run P w = .ok (.bool a.isNone) w := by
  simp only [binOp]
  simp [show Op.equal t (.slice a l c) (.slice none 0 0) = Op.equalIn (9999 + 1) t (.slice a l c) (.slice none 0 0) from rfl, run_equalIn_sl_nil w 9999 t e a l c h]
set_option maxRecDepth 100000 in
set_option maxHeartbeats 1000000 in
theorem clone_s {w : World} {v : Value} {n : Nat} {xs : List Value} (h : w.ownsRow 0 68 512 v n xs) (hn : n ≤ 4096) (h1 : ∀ u ∈ xs, u.oneCell' = true) :
    Calls Try.prog 27 #[v] w fun e w' => ∃ v', e = .returned v' ∧ w'.ownsRow w.heap.size 68 512 v' n xs ∧ Kp (fun _ => False) w w' := by
  obtain ⟨iw, i1, i2, i3, i4⟩ := secInfo
  have i5 : (Value.agg (bcs zsec).toArray).cells.size = 512 := by show (bcs zsec).toArray.size = 512; simp [bcs_length, zsec_length]
  have hl := h.1
  have hq := fun w a l c => run_eql_sl_nil (P := Try.prog) w 59 _ a l c Try.underlying59
  rcases h.2 with ⟨rfl, rfl⟩ | ⟨g, cap, cur, rfl, _, hg, hnc, hcm, hcs, ht⟩
  · have hx : xs = [] := List.eq_nil_of_length_eq_zero (by simpa using hl)
    subst hx
    clear h hl i1 i2 i3 i4 i5
    go_enter Try.func27, Try.ntmps27
    go_wp2_with fail
    go_ret
    exact ⟨_, rfl, World.ownsRow_nil _ _ _ _, Kp.refl _ _⟩
  · have hcell : ∀ j u, xs[j]? = some u → (w.alloc (.cells #[] 68)).cell? ((⟨g, 0, none⟩ : Addr).add j) = some u := fun j u hj => by
      have := h.cells (g := g) rfl j u hj
      rw [Addr.add_mid, Nat.zero_add] at this ⊢
      rw [World.cell?_alloc_lt w _ ⟨g, j, none⟩ (World.block_lt_of_cell? w ⟨g, j, none⟩ this)]
      exact this
    have HC := Lib.hid hcell
    have H1 := Lib.hid h1
    have HLn := Lib.hid hl
    obtain ⟨R, hR⟩ : ∃ R, Array.range 512 = R := ⟨_, rfl⟩
    clear h hcell hg hcs ht h1 hl
    go_enter Try.func27, Try.ntmps27
    go_wp2_with (first | (at_builtin; refine wpList_append_own _ rfl (.tmp 5) (.tmp 6) 59 rfl w.heap.size 68 iw _ 512 512 Try.underlying59 i1 i2 i3 i4 i5 (by decide) (.slice (some ⟨w.heap.size, 0, none⟩) 0 0) 0 [] rfl (World.ownsRow_lit w #[] 0 (Nat.le_refl _) (by decide) (by simp)) ⟨g, 0, none⟩ n cap xs rfl HLn.out HC.out H1.out (by unfold maxLen; omega) (by omega) (by simp) ?_; intro v3 w3 hown3 hg3 hnn) | fail)
    go_ret
    rw [Nat.zero_add, List.nil_append] at hown3
    refine ⟨_, rfl, hown3, ?_⟩
    have k1 := ((Kp.refl (fun _ => False) w).alloc (.cells #[] 68)).grown hg3 (fun q e => by
      simp [Value.ownBlock] at e
      exact .inl (by omega))
    exact k1
set_option maxRecDepth 100000 in
set_option maxHeartbeats 1000000 in
theorem clone_w {w : World} {v : Value} {n : Nat} {xs : List Value} (h : w.ownsRow 0 71 513 v n xs) (hn : n < 1073741824) (h1 : ∀ u ∈ xs, u.oneCell' = true) :
    Calls Try.prog 28 #[v] w fun e w' => ∃ v', e = .returned v' ∧ w'.ownsRow w.heap.size 71 513 v' n xs ∧ Kp (fun _ => False) w w' := by
  obtain ⟨iw, z, i1, i2, i3, i4, i5⟩ := wrInfo
  have hl := h.1
  have hq := fun w a l c => run_eql_sl_nil (P := Try.prog) w 61 _ a l c Try.underlying61
  rcases h.2 with ⟨rfl, rfl⟩ | ⟨g, cap, cur, rfl, _, hg, hnc, hcm, hcs, ht⟩
  · have hx : xs = [] := List.eq_nil_of_length_eq_zero (by simpa using hl)
    subst hx
    clear h hl i1 i2 i3 i4 i5
    go_enter Try.func28, Try.ntmps28
    go_wp2_with fail
    go_ret
    exact ⟨_, rfl, World.ownsRow_nil _ _ _ _, Kp.refl _ _⟩
  · have hcell : ∀ j u, xs[j]? = some u → (w.alloc (.cells #[] 71)).cell? ((⟨g, 0, none⟩ : Addr).add j) = some u := fun j u hj => by
      have := h.cells (g := g) rfl j u hj
      rw [Addr.add_mid, Nat.zero_add] at this ⊢
      rw [World.cell?_alloc_lt w _ ⟨g, j, none⟩ (World.block_lt_of_cell? w ⟨g, j, none⟩ this)]
      exact this
    have HC := Lib.hid hcell
    have H1 := Lib.hid h1
    have HLn := Lib.hid hl
    obtain ⟨R, hR⟩ : ∃ R, Array.range 513 = R := ⟨_, rfl⟩
    clear h hcell hg hcs ht h1 hl
    go_enter Try.func28, Try.ntmps28
    go_wp2_with (first | (at_builtin; refine wpList_append_own _ rfl (.tmp 5) (.tmp 6) 61 rfl w.heap.size 71 iw _ 513 520 Try.underlying61 i1 i2 i3 i4 i5 (by decide) (.slice (some ⟨w.heap.size, 0, none⟩) 0 0) 0 [] rfl (World.ownsRow_lit w #[] 0 (Nat.le_refl _) (by decide) (by simp)) ⟨g, 0, none⟩ n cap xs rfl HLn.out HC.out H1.out (by unfold maxLen; omega) (by omega) (by simp) ?_; intro v3 w3 hown3 hg3 hnn) | fail)
    go_ret
    rw [Nat.zero_add, List.nil_append] at hown3
    refine ⟨_, rfl, hown3, ?_⟩
    have k1 := ((Kp.refl (fun _ => False) w).alloc (.cells #[] 71)).grown hg3 (fun q e => by
      simp [Value.ownBlock] at e
      exact .inl (by omega))
    exact k1
end Go.Proofs.Ytbdiebkfkmjjiaa
