/- Laws of operations, and two slices of bytes compared. No condition. -/
import Derived.Test.YtjapnkpicefadaaNdRead
import Derived.Test.YtjapnkpicefadaaNdPut
namespace Go.Proofs.Ytjapnkpicefadaa
open Go.RowKit

theorem nresults_two {P : Program} {fn : Func} {p u : Tmp} {ty : TypeId} (h : fn.results = #[.cell p ty, .tmp u]) (tmps : Array Value) (w : World) (g : Nat) (t : TypeId) (cs : Array Value) (fr : Nat × Nat) (d : TypeDesc)
    (hp : tmps.getD p undef = .pointer (some ⟨g, 0, none⟩)) (hg : w.heap[g]? = some (.cells cs t fr))
    (hu : P.underlying ty = some d) (hd : (match d with | .struct _ | .array _ _ => true | _ => false) = true) (hi : (P.info? ty).map (·.size) = some cs.size) :
    (results fn tmps).run P w = .ok (.tuple #[.agg cs, tmps.getD u undef]) w := by
  have hp' : tmps[p]?.getD undef = .pointer (some ⟨g, 0, none⟩) := by simpa using hp
  rw [results_cell_tmp h]
  simp [hp', asAddr, run_loadVar_row w g t ty cs fr d hg hu hd hi, Result.andThen]
theorem nwp_store_box {P : Program} {op : Oper} {a : Act} {w : World} {K : Act → World → Prop} {Q : Exit → Act → World → Prop} (ty : TypeId) (x y : Operand) (ho : op.op = .store ty x y)
    (g : Nat) (cs : List Value) (hx : a.eval x = .pointer (some ⟨g, 0, none⟩)) (hy : a.eval y = .agg cs.toArray) {t : TypeId} {old : Array Value} (hb : Box w g t old) (hs : old.size = cs.length)
    (hi : (P.info? ty).map (·.size) = some cs.length) (h1 : ∀ v ∈ cs, v.oneCell' = true)
    (h : ∀ W, Box W g t cs.toArray → Kp (fun k => k = g) w W → K (a.put op.dst undef) W) : op.wp P a w K Q := by
  have hb' : Box w g t old.toList.toArray := hb
  refine wp_store_mid ty x y ho g 0 cs.toArray hx hy ?_ (by simpa using hi) (all_oneCell_toArray h1) ?_
  · have := hb'.there
    simp only [List.size_toArray, Array.length_toList] at this ⊢
    rw [← hs]
    exact this
  · refine h _ ?_ (Kp.setCells _ 0 w (Kp.refl _ w) (.inr rfl))
    exact hb'.write (by simpa using hs.symm)
theorem nexec_load {P : Program} {op : Oper} {a : Act} {w : World} (ty : TypeId) (x : Operand) (ho : op.op = .load ty x) (b o : Nat) (hx : a.eval x = .pointer (some ⟨b, o, none⟩)) (cs : List Value) (d : TypeDesc) (hr : w.rangeAt b o cs) (hu : P.underlying ty = some d) (hd : d.isRow = true) (hi : (P.info? ty).map (·.size) = some cs.length) :
    (execOp a.eval op).run P w = .ok (.value (.agg cs.toArray)) w := by
  unfold execOp
  simp only [ho, hx, Instr.loadAt, Instr.sureAddr, Sem.run_bind, Sem.run_pure, Result.andThen_ok, run_loadVar_mid w b o ty cs d hr hu hd hi]
theorem nstr_eq (a b : List UInt8) : ((⟨a.toArray⟩ : ByteArray).toList == (⟨b.toArray⟩ : ByteArray).toList) = (a == b) := by rw [ByteArray.toList_eq, ByteArray.toList_eq]

set_option maxHeartbeats 400000 in
theorem nequal_any (A B : Option Addr) (c d n m : Nat) (l k : List UInt8) (w : World) (hn : l.length = n) (hm : k.length = m) (hl : Rd w A l) (hk : Rd w B k) :
    Calls Try.prog 32 #[.slice A n c, .slice B m d] w fun e w' => e = .returned (.bool (l == k)) ∧ w = w' := by
  subst hn; subst hm
  have h1 := hl.text (P := Try.prog) 32 9 5 c Try.underlying32 Try.underlying5 Try.underlying9
  have h2 := hk.text (P := Try.prog) 32 9 5 d Try.underlying32 Try.underlying5 Try.underlying9
  have hs := nstr_eq l k
  clear hl hk
  go_enter Try.func32, Try.ntmps32
  go_wp2_with fail
  go_ret
  refine ⟨?_, rfl⟩
  first | rfl | (rw [hs])

/-- What Take answers. -/
def takeS (kw vw : Int) (l : List UInt8) : Nd × Int :=
  if shB kw vw = false then (nd0, 2) else if l.length ≠ 512 then (nd0, 3)
  else if (okB kw vw (readN kw.toNat vw.toNat l) && (l == pageL (readN kw.toNat vw.toNat l))) = true then (readN kw.toNat vw.toNat l, 0) else (nd0, 3)
theorem rd_still {w w' : World} {A : Option Addr} {l : List UInt8} (h : Rd w A l) (hk : Kp (fun _ => False) w w') : Rd w' A l := h.kp hk fun _ _ h => h
/-- What Put answers. -/
theorem put_any (kw vw : Int) (n : Nd) (p : Pl) (w : World) (h : NdR w n p) :
    Calls Try.prog 13 #[.agg #[.int .i64 kw, .int .i64 vw], .agg (ncs n p)] w fun e w' => ∃ A c, e = .returned (.tuple #[.slice A (if okB kw vw n = true then 512 else 0) c, .int .i64 (if okB kw vw n = true then 0 else 2)]) ∧ (okB kw vw n = true → Rd w' A (pageL n)) ∧ (if okB kw vw n = true then 512 else 0) ≤ c ∧ c ≤ maxLen ∧ Kp (fun _ => False) w w' := by
  rcases hok : okB kw vw n with _ | _
  · refine (put_no kw vw n p w h hok).mono ?_
    rintro e w1 ⟨rfl, hk⟩
    exact ⟨none, 0, rfl, (fun h => by cases h), Nat.le_refl _, by simp [maxLen], hk⟩
  · refine (put_yes kw vw n p w h hok).mono ?_
    rintro e w1 ⟨g, c, rfl, h1, h2, h3, _, hk⟩
    exact ⟨some ⟨g, 0, none⟩, c, rfl, fun _ => h3, h1, h2, hk⟩
end Go.Proofs.Ytjapnkpicefadaa
