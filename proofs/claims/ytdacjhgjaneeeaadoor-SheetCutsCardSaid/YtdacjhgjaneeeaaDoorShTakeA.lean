/- What sheet.Take stands on: an opener that fails, two slices of bytes compared, a struct as a result. No condition. -/
import Derived.Test.YtdacjhgjaneeeaaDoorShPut
import Derived.Test.YtdacjhgjaneeeaaDoorMem2
namespace Go.Proofs.YtdacjhgjaneeeaaDoor
open Go.RowKit

theorem results_two {P : Program} {fn : Func} {p u : Tmp} {ty : TypeId} (h : fn.results = #[.cell p ty, .tmp u]) (tmps : Array Value) (w : World) (g : Nat) (t : TypeId) (cs : Array Value) (fr : Nat × Nat) (d : TypeDesc)
    (hp : tmps.getD p undef = .pointer (some ⟨g, 0, none⟩)) (hg : w.heap[g]? = some (.cells cs t fr))
    (hu : P.underlying ty = some d) (hd : (match d with | .struct _ | .array _ _ => true | _ => false) = true) (hi : (P.info? ty).map (·.size) = some cs.size) :
    (results fn tmps).run P w = .ok (.tuple #[.agg cs, tmps.getD u undef]) w := by
  have hp' : tmps[p]?.getD undef = .pointer (some ⟨g, 0, none⟩) := by simpa using hp
  rw [results_cell_tmp h]
  simp [hp', asAddr, run_loadVar_row w g t ty cs fr d hg hu hd hi, Result.andThen]
theorem wpList_store_box {P : Program} {ops : Array Oper} {rest : List Oper} {op : Oper} {a : Act} {w : World} {Q : Exit → Act → World → Prop} (hgd : op.guard = none) (ty : TypeId) (x y : Operand) (ho : op.op = .store ty x y)
    (g : Nat) (cs : List Value) (hx : a.eval x = .pointer (some ⟨g, 0, none⟩)) (hy : a.eval y = .agg cs.toArray) {t : TypeId} {old : Array Value} (hb : Box w g t old) (hs : old.size = cs.length)
    (hi : (P.info? ty).map (·.size) = some cs.length) (h1 : ∀ v ∈ cs, v.oneCell' = true)
    (h : ∀ W, Box W g t cs.toArray → Kp (fun k => k = g) w W → wpList P ops Q rest (a.put op.dst undef) W) : wpList P ops Q (op :: rest) a w := by
  have hb' : Box w g t old.toList.toArray := hb
  refine wpList_store_mid hgd ty x y ho g 0 cs.toArray hx hy ?_ (by simpa using hi) (all_oneCell_toArray h1) ?_
  · have := hb'.there
    simp only [List.size_toArray, Array.length_toList] at this ⊢
    rw [← hs]
    exact this
  · exact h _ (hb'.write (by simpa using hs.symm)) (Kp.setCells cs 0 w (Kp.refl _ w) (.inr rfl))
theorem sh_one (q : Nat) (b : Bool) (s : ByteArray) : ∀ v ∈ [Value.int .u64 q, .bool b, .string s], v.oneCell' = true := by
  intro v hv
  simp only [List.mem_cons, List.not_mem_nil, or_false] at hv
  rcases hv with rfl | rfl | rfl <;> rfl
theorem info_sheet : (Tryd.prog.info? 30).map (·.size) = some 3 := by kernel_rfl
theorem str_eq (a b : List UInt8) : ((⟨a.toArray⟩ : ByteArray).toList == (⟨b.toArray⟩ : ByteArray).toList) = (a == b) := by rw [ByteArray.toList_eq, ByteArray.toList_eq]

set_option maxHeartbeats 400000 in
theorem equal_any (A B : Option Addr) (c d n m : Nat) (l k : List UInt8) (w : World) (hn : l.length = n) (hm : k.length = m) (hl : Rd w A l) (hk : Rd w B k) :
    Calls Tryd.prog 29 #[.slice A n c, .slice B m d] w fun e w' => e = .returned (.bool (l == k)) ∧ w = w' := by
  subst hn; subst hm
  have h1 := hl.text (P := Tryd.prog) 26 9 5 c Tryd.underlying26 Tryd.underlying5 Tryd.underlying9
  have h2 := hk.text (P := Tryd.prog) 26 9 5 d Tryd.underlying26 Tryd.underlying5 Tryd.underlying9
  have hs := str_eq l k
  clear hl hk
  go_enter Tryd.func29, Tryd.ntmps29
  go_wp2_with fail
  go_ret
  refine ⟨?_, rfl⟩
  first | rfl | (rw [hs])

section
variable {G : Nat → Prop} {w : World} {b : Nat} {l : List UInt8}

set_option maxHeartbeats 400000 in
theorem otext_short (h : Opn G w b l none) (hG : G w.heap.size) (n : Int) (hn : n < 0 ∨ (l.length : Int) < n) :
    Calls Tryd.prog 27 #[.pointer (some ⟨b, 0, none⟩), .int .i64 n] w fun e w' => e = .returned (.string ⟨#[]⟩) ∧ Opn G w' b l (some 3) ∧ Kp (fun k => k = b) w w' := by
  have H := Lib.hid h
  have HN := Lib.hid hn
  clear h hn
  go_enter Tryd.func27, Tryd.ntmps27
  go_wp2_with fail
  refine (read_text_short H.out hG n HN.out).mono ?_
  rintro e w1 ⟨rfl, ho, hk⟩
  have Ho := Lib.hid ho
  have Hk := Lib.hid hk
  clear ho hk
  go_wp2_with fail
  go_ret
  exact ⟨rfl, Ho.out, Hk.out⟩

set_option maxHeartbeats 400000 in
theorem err_failed {e0 : Int} (h : Opn G w b l (some e0)) :
    Calls Tryd.prog 28 #[.pointer (some ⟨b, 0, none⟩)] w fun e w' => e = .returned (.int .i64 e0) ∧ Kp (fun _ => False) w w' := by
  obtain ⟨_, A, c, fv, hx, _, _, _, _, g, rfl, _, hg⟩ := h
  have HX := Lib.hid hx
  have HG := Lib.hid hg
  clear hx hg
  go_enter Tryd.func28, Tryd.ntmps28
  go_wp2_with fail
  refine (reader_fails b g w _ HX.out).mono ?_
  rintro e w1 ⟨rfl, rfl⟩
  go_wp2_with fail
  refine (failing1 g 0 e0 w HG.out).mono ?_
  rintro e w1 ⟨rfl, q, rfl⟩
  go_wp2_with fail
  go_ret
  exact ⟨rfl, (Kp.refl _ w).drewN q⟩
end
end Go.Proofs.YtdacjhgjaneeeaaDoor
