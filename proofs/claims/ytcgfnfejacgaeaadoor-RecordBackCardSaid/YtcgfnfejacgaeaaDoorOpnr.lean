/- What an opener of package pack does, each call: its state is the bytes that are left and, once it failed, its error. The bytes are fewer than the greatest int. -/
import Derived.Test.YtcgfnfejacgaeaaDoorMem
import Derived.Test.YtcgfnfejacgaeaaDoorRows
namespace Go.Proofs.YtcgfnfejacgaeaaDoor
open Go.RowKit

/-- What stands in the field 'failed'. -/
def FnOf (G : Nat → Prop) (w : World) : Option Int → Value → Prop
  | none, fv => fv = .nilFunc
  | some e, fv => ∃ g, fv = .func (Fn.func 64) #[] #[.pointer (some ⟨g, 0, none⟩)] ∧ G g ∧ Box w g 24 #[.int .i64 e]

/-- The opener in block b: the bytes l are left, f its error; all its blocks are of G. -/
def Opn (G : Nat → Prop) (w : World) (b : Nat) (l : List UInt8) (f : Option Int) : Prop :=
  G b ∧ ∃ A c fv, Box w b 80 #[.slice A l.length c, fv] ∧ l.length ≤ c ∧ c ≤ maxLen ∧ Rd w A l ∧ (l ≠ [] → ∀ a, A = some a → G a.block) ∧ FnOf G w f fv

section
variable {G S : Nat → Prop} {w w' : World} {b : Nat} {l : List UInt8} {f : Option Int}
theorem Opn.kp (h : Opn G w b l f) (hk : Kp S w w') (hs : ∀ k, G k → ¬ S k) : Opn G w' b l f := by
  obtain ⟨hb, A, c, fv, hx, h1, h2, h3, h4, h5⟩ := h
  refine ⟨hb, A, c, fv, hx.kp hk (hs b hb), h1, h2, ?_, h4, ?_⟩
  · by_cases hl : l = []
    · exact .inl hl
    · exact h3.kp hk (fun a ha => hs _ (h4 hl a ha))
  cases f with
  | none => exact h5
  | some e =>
    obtain ⟨g, e1, e2, e3⟩ := h5
    exact ⟨g, e1, e2, e3.kp hk (hs g e2)⟩
theorem Opn.old (h : Opn G w b l f) : Opn (fun k => G k ∧ k < w.heap.size) w b l f := by
  obtain ⟨hb, A, c, fv, hx, h1, h2, h3, h4, h5⟩ := h
  refine ⟨⟨hb, hx.lt⟩, A, c, fv, hx, h1, h2, h3, fun hl a ha => ⟨h4 hl a ha, ?_⟩, ?_⟩
  · obtain ⟨a', e, hlt⟩ := h3.lt hl
    rw [ha] at e
    cases e
    exact hlt
  · cases f with
    | none => exact h5
    | some e =>
      obtain ⟨g, e1, e2, e3⟩ := h5
      exact ⟨g, e1, ⟨e2, e3.lt⟩, e3⟩
theorem Opn.mono {G' : Nat → Prop} (h : Opn G w b l f) (hs : ∀ k, G k → G' k) : Opn G' w b l f := by
  obtain ⟨hb, A, c, fv, hx, h1, h2, h3, h4, h5⟩ := h
  refine ⟨hs _ hb, A, c, fv, hx, h1, h2, h3, fun hl a ha => hs _ (h4 hl a ha), ?_⟩
  cases f with
  | none => exact h5
  | some e =>
    obtain ⟨g, e1, e2, e3⟩ := h5
    exact ⟨g, e1, hs _ e2, e3⟩
end

theorem func_cmp (w : World) : (binOp .neq 78 .nilFunc .nilFunc).run Tryd.prog w = .ok (.bool false) w := by kernel_rfl
theorem func_cmp' (fn : Fn) (a b : Array Value) (w : World) : (binOp .neq 78 (.func fn a b) .nilFunc).run Tryd.prog w = .ok (.bool true) w := by kernel_rfl

set_option maxHeartbeats 400000 in
theorem reader_nil (w : World) :
    Calls Tryd.prog 50 #[.pointer none] w fun e w' => e = .returned (.func (Fn.func 64) #[] #[.pointer (some ⟨w.heap.size, 0, none⟩)]) ∧ w.alloc (.cells #[.int .i64 1] 24) = w' := by
  go_enter Tryd.func50, Tryd.ntmps50
  go_wp2_with go_in
  go_ret
  exact ⟨rfl, rfl⟩

set_option maxHeartbeats 400000 in
theorem reader_fine (b : Nat) (w : World) (sl : Value) (hb : Box w b 80 #[sl, .nilFunc]) :
    Calls Tryd.prog 50 #[.pointer (some ⟨b, 0, none⟩)] w fun e w' => e = .returned (.func (Fn.func 59) #[.pointer (some ⟨b, 0, none⟩)] #[]) ∧ w = w' := by
  have c1 := hb.cell 1
  simp at c1
  clear hb
  have hcmp := func_cmp
  go_enter Tryd.func50, Tryd.ntmps50
  go_wp2
  go_ret
  exact ⟨rfl, rfl⟩

set_option maxHeartbeats 400000 in
theorem reader_fails (b g : Nat) (w : World) (sl : Value) (hb : Box w b 80 #[sl, .func (Fn.func 64) #[] #[.pointer (some ⟨g, 0, none⟩)]]) :
    Calls Tryd.prog 50 #[.pointer (some ⟨b, 0, none⟩)] w fun e w' => e = .returned (.func (Fn.func 64) #[] #[.pointer (some ⟨g, 0, none⟩)]) ∧ w = w' := by
  have c1 := hb.cell 1
  simp at c1
  clear hb
  have hcmp := fun w => func_cmp' (Fn.func 64) #[] #[.pointer (some ⟨g, 0, none⟩)] w
  go_enter Tryd.func50, Tryd.ntmps50
  go_wp2
  go_ret
  exact ⟨rfl, rfl⟩

set_option maxHeartbeats 400000 in
theorem failing1 (g : Nat) (n e1 : Int) (w : World) (hb : Box w g 24 #[.int .i64 e1]) :
    Calls Tryd.prog 64 #[.int .i64 n, .pointer (some ⟨g, 0, none⟩)] w fun e w' => e = .returned (.tuple #[.slice none 0 0, .int .i64 e1]) ∧ ∃ q, w' = w.drewN q := by
  have c1 := hb.cell 0
  simp at c1
  clear hb
  go_enter Tryd.func64, Tryd.ntmps64
  go_wp2
  go_quiet (fail)
  go_wp2
  go_ret2
  exact ⟨rfl, _, rfl⟩

/-- 'next' where the bytes are there. -/
theorem next_fine_ (b : Nat) (A : Option Addr) (c : Nat) (l : List UInt8) (n : Nat) (w : World) (hb : Box w b 80 #[.slice A l.length c, .nilFunc]) (_hc : l.length ≤ c) (_hm : c ≤ maxLen) (hn : n ≤ l.length) :
    Calls Tryd.prog 59 #[.pointer (some ⟨b, 0, none⟩), .int .i64 n] w fun e w' => e = .returned (.tuple #[.slice A n c, .int .i64 0]) ∧
      (w.setCell ⟨b, 0, none⟩ (.slice (if c = n then A else A.map (·.add n)) (l.length - n) (c - n))) = w' := by
  have c0 := hb.cell 0
  have f0 := hb.free 0
  simp at c0
  have hnd : decide ((n : Int) < 0) = false := by simp
  have hnd2 : decide (l.length < n) = false := by simpa using hn
  clear hb
  go_enter Tryd.func59, Tryd.ntmps59
  go_wp2
  all_goals go_ret2
  all_goals exact ⟨rfl, rfl⟩

/-- 'next' where they are not. -/
theorem next_fails_ (b : Nat) (A : Option Addr) (c : Nat) (l : List UInt8) (n : Int) (w : World) (hb : Box w b 80 #[.slice A l.length c, .nilFunc]) (hn : n < 0 ∨ (l.length : Int) < n) :
    Calls Tryd.prog 59 #[.pointer (some ⟨b, 0, none⟩), .int .i64 n] w fun e w' => e = .returned (.tuple #[.slice none 0 0, .int .i64 3]) ∧
      ∃ q, w' = ((w.setCell ⟨b, 1, none⟩ (.func (Fn.func 64) #[] #[.pointer (some ⟨w.heap.size, 0, none⟩)])).alloc (.cells #[.int .i64 3] 24)).drewN q := by
  have c0 := hb.cell 0
  have o1 := hb.cell 1
  have f1 := hb.free 1
  have hl := hb.lt
  have hg := Box.new (w.setCell ⟨b, 1, none⟩ (.func (Fn.func 64) #[] #[.pointer (some ⟨w.heap.size, 0, none⟩)])) 24 #[.int .i64 3]
  have c1 := ((hb.put 1 (.func (Fn.func 64) #[] #[.pointer (some ⟨w.heap.size, 0, none⟩)])).alloc (.cells #[.int .i64 3] 24)).cell 1
  simp at c0 c1 o1 hg
  clear hb
  rcases hn with hn | hn
  · have hnd : decide (n < 0) = true := by simpa using hn
    clear hn
    go_enter Tryd.func59, Tryd.ntmps59
    go_wp2_with (first | (go_at_call 64; refine (failing1 _ _ 3 _ hg).mono ?_; rintro e w' ⟨rfl, q, rfl⟩) | go_in)
    go_ret2
    exact ⟨rfl, _, rfl⟩
  · have hnd : decide (n < 0) = false := by simp; omega
    have hnd2 : decide ((l.length : Int) < n) = true := by simpa using hn
    clear hn
    go_enter Tryd.func59, Tryd.ntmps59
    go_wp2_with (first | (go_at_call 64; refine (failing1 _ _ 3 _ hg).mono ?_; rintro e w' ⟨rfl, q, rfl⟩) | go_in)
    go_ret2
    exact ⟨rfl, _, rfl⟩

/-- The bytes are there: the opener goes on behind them. -/
theorem next_fine {G : Nat → Prop} {w : World} {b : Nat} {l : List UInt8} (h : Opn G w b l none) (n : Nat) (hn : n ≤ l.length) :
    Calls Tryd.prog 59 #[.pointer (some ⟨b, 0, none⟩), .int .i64 n] w fun e w' => ∃ A c, e = .returned (.tuple #[.slice A n c, .int .i64 0]) ∧ n ≤ c ∧ c ≤ maxLen ∧ Rd w' A (l.take n) ∧ (l ≠ [] → ∀ a, A = some a → G a.block) ∧
      Opn G w' b (l.drop n) none ∧ Kp (fun k => k = b) w w' := by
  obtain ⟨hb, A, c, fv, hx, h1, h2, h3, h4, h5⟩ := h
  cases h5
  refine (next_fine_ b A c l n w hx h1 h2 hn).mono ?_
  rintro e w' ⟨rfl, rfl⟩
  have hk : Kp (fun k => k = b) w (w.setCell ⟨b, 0, none⟩ (.slice (if c = n then A else A.map (·.add n)) (l.length - n) (c - n))) := Kp.one _ _ _ _
  have hr : Rd (w.setCell ⟨b, 0, none⟩ (.slice (if c = n then A else A.map (·.add n)) (l.length - n) (c - n))) A l := h3.kp_box hk hx (by
    intro i u hu
    rcases i with _ | _ | i <;> simp at hu)
  refine ⟨A, c, rfl, by omega, h2, hr.take n, h4, ⟨hb, if c = n then A else A.map (·.add n), c - n, .nilFunc, ?_, ?_, ?_, hr.drop (n := n) h1, ?_, rfl⟩, hk⟩
  · have := hx.put 0 (.slice (if c = n then A else A.map (·.add n)) (l.length - n) (c - n))
    simpa using this
  · simp; omega
  · simp only [maxLen] at h2 ⊢; omega
  · intro hl a ha
    have hl' : l ≠ [] := by rintro rfl; simp at hl
    split at ha
    · exact h4 hl' a ha
    · obtain ⟨a', ha', rfl⟩ := Option.map_eq_some_iff.1 ha
      have := h4 hl' a' ha'
      unfold Addr.add
      split <;> exact this

/-- They are not: it fails. -/
theorem next_fails {G : Nat → Prop} {w : World} {b : Nat} {l : List UInt8} (h : Opn G w b l none) (hG : G w.heap.size) (n : Int) (hn : n < 0 ∨ (l.length : Int) < n) :
    Calls Tryd.prog 59 #[.pointer (some ⟨b, 0, none⟩), .int .i64 n] w fun e w' => e = .returned (.tuple #[.slice none 0 0, .int .i64 3]) ∧
      Opn G w' b l (some 3) ∧ Kp (fun k => k = b) w w' := by
  obtain ⟨hb, A, c, fv, hx, h1, h2, h3, h4, h5⟩ := h
  cases h5
  refine (next_fails_ b A c l n w hx hn).mono ?_
  rintro e w' ⟨rfl, q, rfl⟩
  have hk : Kp (fun k => k = b) w (w.setCell ⟨b, 1, none⟩ (.func (Fn.func 64) #[] #[.pointer (some ⟨w.heap.size, 0, none⟩)])) := Kp.one _ _ _ _
  have hr := h3.kp_box hk hx (by
    intro i u hu
    rcases i with _ | _ | i <;> simp at hu)
  have hx1 := hx.put 1 (.func (Fn.func 64) #[] #[.pointer (some ⟨w.heap.size, 0, none⟩)])
  have hg := Box.new (w.setCell ⟨b, 1, none⟩ (.func (Fn.func 64) #[] #[.pointer (some ⟨w.heap.size, 0, none⟩)])) 24 #[.int .i64 3]
  simp at hg hx1
  exact ⟨rfl, ⟨hb, A, c, _, (hx1.alloc _).drewN q, h1, h2, (hr.alloc _).drewN q, h4, _, rfl, hG, hg.drewN q⟩, (hk.alloc _).drewN q⟩

end Go.Proofs.YtcgfnfejacgaeaaDoor
