/- A map as the program holds it: sixteen words and how many pages there are; its cells; what is stored whole, what is answered. No condition. -/
import Derived.Test.YtlhfdoaknfgemaaDoorBtMath
import Derived.Test.YtlhfdoaknfgemaaDoorMem2
import Derived.Test.YtlhfdoaknfgemaaDoorChecked
import Derived.IntWalk
import Derived.Laws.BitsAllLaws
import Derived.Deep.DeepCutAuto
import Derived.Deep.CutRange
import Derived.Deep.CutBlock
namespace Go.Proofs.YtlhfdoaknfgemaaDoor
open Go.RowKit

/-- The cells of a map. -/
def mcs (f : Nat → Bool) (n : Nat) : List Value := ((List.range 16).map fun j => Value.int .u64 ((wd f j : Nat) : Int)) ++ [.int .i64 (n : Int)]
theorem mcs_length (f : Nat → Bool) (n : Nat) : (mcs f n).length = 17 := by simp [mcs]
theorem mcs_word (f : Nat → Bool) (n j : Nat) (hj : j < 16) : (mcs f n)[j]? = some (.int .u64 ((wd f j : Nat) : Int)) := by
  rw [mcs, List.getElem?_append_left (by simpa using hj), List.getElem?_map, List.getElem?_range hj]; rfl
theorem mcs_pages (f : Nat → Bool) (n : Nat) : (mcs f n)[16]? = some (.int .i64 (n : Int)) := by
  rw [mcs, List.getElem?_append_right (by simp)]; simp
theorem mcs_one (f : Nat → Bool) (n : Nat) : ∀ v ∈ mcs f n, v.oneCell' = true := fun v hv => by
  rcases List.mem_append.1 hv with hv | hv
  · obtain ⟨j, _, rfl⟩ := List.mem_map.1 hv; rfl
  · obtain rfl : v = .int .i64 (n : Int) := by simpa using hv
    rfl
theorem mcs_set (f g : Nat → Bool) (n k : Nat) (hk : k < 16) (h : ∀ j, j ≠ k → wd g j = wd f j) : (mcs f n).set k (.int .u64 ((wd g k : Nat) : Int)) = mcs g n := by
  refine List.ext_getElem? fun j => ?_
  rw [List.getElem?_set]
  by_cases hj : k = j
  · subst hj
    rw [if_pos rfl, if_pos (by rw [mcs_length]; omega), mcs_word _ _ _ hk]
  · rw [if_neg hj]
    rcases Nat.lt_or_ge j 16 with h16 | h16
    · rw [mcs_word _ _ _ h16, mcs_word _ _ _ h16, h j (fun e => hj e.symm)]
    · rcases Nat.eq_or_lt_of_le h16 with rfl | h17
      · rw [mcs_pages, mcs_pages]
      · rw [List.getElem?_eq_none (by rw [mcs_length]; omega), List.getElem?_eq_none (by rw [mcs_length]; omega)]
/-- The cells of the zero map. -/
def zcs (n : Nat) : List Value := [.int .u64 0, .int .u64 0, .int .u64 0, .int .u64 0, .int .u64 0, .int .u64 0, .int .u64 0, .int .u64 0, .int .u64 0, .int .u64 0, .int .u64 0, .int .u64 0, .int .u64 0, .int .u64 0, .int .u64 0, .int .u64 0, .int .i64 n]
def nof : Nat → Bool := fun _ => false
theorem wd_nof (j : Nat) : wd nof j = 0 := wd_zero j
theorem zcs_eq (n : Nat) : zcs n = mcs nof n := by
  simp [mcs, zcs, List.range_succ, wd_nof]
theorem infoMap : (Tryd.prog.info? 27).map (·.size) = some 17 := by kernel_rfl
theorem infoMcs (f : Nat → Bool) (n : Nat) : (Tryd.prog.info? 27).map (·.size) = some (mcs f n).length := by rw [mcs_length]; exact infoMap
theorem infoMca (f : Nat → Bool) (n : Nat) : (Tryd.prog.info? 27).map (·.size) = some (mcs f n).toArray.size := by rw [List.size_toArray]; exact infoMcs f n
/-- A map in a variable. -/
def Mp (w : World) (g : Nat) (f : Nat → Bool) (n : Nat) : Prop := Box w g 27 (mcs f n).toArray
section
variable {S : Nat → Prop} {w w' : World} {g : Nat} {f f' : Nat → Bool} {n : Nat}
theorem Mp.word (h : Mp w g f n) (j : Nat) (hj : j < 16) : w.cell? ⟨g, j, none⟩ = some (.int .u64 ((wd f j : Nat) : Int)) := by
  have e : (mcs f n).toArray[j]? = (mcs f n)[j]? := List.getElem?_toArray
  exact (Box.cell (cs := (mcs f n).toArray) h j).trans (e.trans (mcs_word f n j hj))
theorem Mp.pages (h : Mp w g f n) : w.cell? ⟨g, 16, none⟩ = some (.int .i64 (n : Int)) := by
  have e : (mcs f n).toArray[16]? = (mcs f n)[16]? := List.getElem?_toArray
  exact (Box.cell (cs := (mcs f n).toArray) h 16).trans (e.trans (mcs_pages f n))
theorem Mp.free (h : Mp w g f n) (j : Nat) : w.frozen? ⟨g, j, none⟩ = false := Box.free h j
theorem Mp.kp (h : Mp w g f n) (hk : Kp S w w') (hn : ¬ S g) : Mp w' g f n := Box.kp h hk hn
theorem Mp.drew (h : Mp w g f n) : Mp w.drew g f n := h
theorem Mp.new (w : World) (f : Nat → Bool) (n : Nat) : Mp (w.alloc (.cells (mcs f n).toArray 27)) w.heap.size f n := Box.new w _ _
theorem Mp.alloc (h : Mp w g f n) (o : Obj) : Mp (w.alloc o) g f n := Box.alloc h o
theorem Mp.far (h : Mp w g f n) {p : Addr} (hp : g ≠ p.block) (u : Value) : Mp (w.setCell p u) g f n := Box.far h hp u
theorem Mp.put (h : Mp w g f n) (k : Nat) (hk : k < 16) (u : Value) (hu : u = .int .u64 ((wd f' k : Nat) : Int)) (ho : ∀ j, j ≠ k → wd f' j = wd f j) : Mp (w.setCell ⟨g, k, none⟩ u) g f' n := by
  have h1 : Box (w.setCell ⟨g, k, none⟩ u) g 27 ((mcs f n).toArray.setIfInBounds k u) := Box.put h k u
  have h2 : (mcs f n).toArray.setIfInBounds k u = (mcs f' n).toArray := by rw [List.setIfInBounds_toArray, hu, mcs_set f f' n k hk ho]
  rw [h2] at h1
  exact h1
theorem Mp.range (h : Mp w g f n) : w.rangeAt g 0 (mcs f n) := Box.range' (L := mcs f n) h
end
/-- A whole variable is read, where the guard lets it. -/
theorem bload_want {P : Program} {ops : Array Oper} {rest : List Oper} {op : Oper} {a : Act} {w : World} {Q : Exit → Act → World → Prop} (hw : Region.wanted op (yielded ops a.tmps) = true) (ty : TypeId) (x : Operand) (ho : op.op = .load ty x)
    (b o : Nat) (hx : a.eval x = .pointer (some ⟨b, o, none⟩)) (cs : List Value) (d : TypeDesc) (hc : w.rangeAt b o cs)
    (hu : P.underlying ty = some d) (hd : d.isRow = true) (hi : (P.info? ty).map (·.size) = some cs.length)
    (h : wpList P ops Q rest (a.put op.dst (.agg cs.toArray)) w) : wpList P ops Q (op :: rest) a w :=
  wpList_step fun _ hK => by
    rw [if_pos hw]
    exact wp_load_mid ty x ho b o hx cs d hc hu hd hi (hK _ _ h)
/-- A whole variable is stored into a block that is known whole. -/
theorem bstore_box {P : Program} {ops : Array Oper} {rest : List Oper} {op : Oper} {a : Act} {w : World} {Q : Exit → Act → World → Prop} (hgd : op.guard = none) (ty : TypeId) (x y : Operand) (ho : op.op = .store ty x y)
    (g : Nat) (cs : List Value) (hx : a.eval x = .pointer (some ⟨g, 0, none⟩)) (hy : a.eval y = .agg cs.toArray) {t : TypeId} {old : Array Value} (hb : Box w g t old) (hs : old.size = cs.length)
    (hi : (P.info? ty).map (·.size) = some cs.length) (h1 : ∀ v ∈ cs, v.oneCell' = true)
    (h : ∀ W, Box W g t cs.toArray → Kp (fun k => k = g) w W → wpList P ops Q rest (a.put op.dst undef) W) : wpList P ops Q (op :: rest) a w := by
  have hb' : Box w g t old.toList.toArray := hb
  refine wpList_store_mid hgd ty x y ho g 0 cs.toArray hx hy ?_ (by simpa using hi) (all_oneCell_toArray h1) ?_
  · have := hb'.there
    simp only [List.size_toArray, Array.length_toList] at this ⊢
    rw [← hs]
    exact this
  · refine h _ ?_ (Kp.setCells _ 0 w (Kp.refl _ w) (.inr rfl))
    exact hb'.write (by simpa using hs.symm)
theorem bresults_two {P : Program} {fn : Func} {p u : Tmp} {ty : TypeId} (h : fn.results = #[.cell p ty, .tmp u]) (tmps : Array Value) (w : World) (g : Nat) (t : TypeId) (cs : Array Value) (fr : Nat × Nat) (d : TypeDesc)
    (hp : tmps.getD p undef = .pointer (some ⟨g, 0, none⟩)) (hg : w.heap[g]? = some (.cells cs t fr))
    (hu : P.underlying ty = some d) (hd : (match d with | .struct _ | .array _ _ => true | _ => false) = true) (hi : (P.info? ty).map (·.size) = some cs.size) :
    (results fn tmps).run P w = .ok (.tuple #[.agg cs, tmps.getD u undef]) w := by
  have hp' : tmps[p]?.getD undef = .pointer (some ⟨g, 0, none⟩) := by simpa using hp
  rw [results_cell_tmp h]
  simp [hp', asAddr, run_loadVar_row w g t ty cs fr d hg hu hd hi, Result.andThen]
/-- The pages that there are. -/
def pgB (n : Nat) (i : Int) : Bool := decide (0 ≤ i) && decide (i < n)
theorem pgB_true {n : Nat} {i : Int} (h0 : 0 ≤ i) (h1 : i < n) : pgB n i = true := by simp [pgB, h0, h1]
theorem pgB_false {n : Nat} {i : Int} (h : i < 0 ∨ (n : Int) ≤ i) : pgB n i = false := by
  unfold pgB
  rcases h with h | h
  · simp; omega
  · simp; omega

set_option maxHeartbeats 400000 in
theorem ispage_any (f : Nat → Bool) (n : Nat) (i : Int) (w : World) :
    Calls Tryd.prog 19 #[.agg (mcs f n).toArray, .int .i64 i] w fun e w' => e = .returned (.bool (pgB n i)) ∧ Kp (fun _ => False) w w' := by
  obtain ⟨W, hW, hb, hk⟩ : ∃ W, W = w.alloc (.cells (mcs f n).toArray 27) ∧ Mp W w.heap.size f n ∧ Kp (fun _ => False) w W := ⟨_, rfl, Mp.new w f n, (Kp.refl _ w).alloc _⟩
  have HW := Lib.hid hW
  have K := Lib.hid hk
  have y := hb.pages
  clear hW hb hk
  by_cases h0 : 0 ≤ i
  · by_cases h1 : i < n
    · rw [pgB_true h0 h1]
      go_enter Tryd.func19, Tryd.ntmps19
      go_upto_region 1 with fail
      rw [← HW.out]
      go_wp2_with fail
      go_ret
      exact ⟨by simp, K.out⟩
    · rw [pgB_false (.inr (by omega))]
      go_enter Tryd.func19, Tryd.ntmps19
      go_upto_region 1 with fail
      rw [← HW.out]
      go_wp2_with fail
      go_ret
      exact ⟨by simp, K.out⟩
  · rw [pgB_false (.inl (by omega))]
    go_enter Tryd.func19, Tryd.ntmps19
    go_upto_region 1 with fail
    rw [← HW.out]
    go_wp2_with fail
    go_ret
    exact ⟨rfl, K.out⟩

set_option maxHeartbeats 400000 in
theorem place_any (k : Nat) (w : World) (hk : k < 1048576) :
    Calls Tryd.prog 20 #[.int .i64 k] w fun e w' => e = .returned (.tuple #[.int .i64 ((k / 64 : Nat) : Int), .int .i64 ((k % 64 : Nat) : Int)]) ∧ w = w' := by
  go_enter Tryd.func20, Tryd.ntmps20
  go_wp2_with fail
  go_ret2
  exact ⟨by simp, rfl⟩

set_option maxHeartbeats 400000 in
theorem len_any (f : Nat → Bool) (n : Nat) (w : World) :
    Calls Tryd.prog 8 #[.agg (mcs f n).toArray] w fun e w' => e = .returned (.int .i64 (n : Int)) ∧ Kp (fun _ => False) w w' := by
  obtain ⟨W, hW, hb, hk⟩ : ∃ W, W = w.alloc (.cells (mcs f n).toArray 27) ∧ Mp W w.heap.size f n ∧ Kp (fun _ => False) w W := ⟨_, rfl, Mp.new w f n, (Kp.refl _ w).alloc _⟩
  have HW := Lib.hid hW
  have K := Lib.hid hk
  have y := hb.pages
  clear hW hb hk
  go_enter Tryd.func8, Tryd.ntmps8
  go_upto_region 1 with fail
  rw [← HW.out]
  go_wp2_with fail
  go_ret
  exact ⟨rfl, K.out⟩
end Go.Proofs.YtlhfdoaknfgemaaDoor
