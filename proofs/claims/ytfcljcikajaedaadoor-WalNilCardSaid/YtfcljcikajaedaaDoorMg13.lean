/- What must be so ahead of a call on a disk, and a text's bits. No condition but the disk's own. -/
import Derived.Test.YtfcljcikajaedaaDoorMg12
namespace Go.Proofs.YtfcljcikajaedaaDoor
open Go.RowKit Go.Maps

/-- 0, or the error. -/
def okOr (c : Bool) (e : Int) : Int := if c then 0 else e
theorem okOr_t (e : Int) : okOr true e = 0 := rfl
theorem okOr_f (e : Int) : okOr false e = e := rfl
theorem unless_any (c : Bool) (e : Int) (w : World) : Calls Tryd.prog 61 #[.bool c, .int .i64 e] w fun r w' => r = .returned (.int .i64 (okOr c e)) ∧ w = w' := by
  go_enter Tryd.func61, Tryd.ntmps61
  cases c
  all_goals
    go_wp2
    go_ret
    exact ⟨rfl, rfl⟩

section
variable {w : World} {b : Nat} {vs vw : Value} {gm : Nat} {d : Dm}
theorem Dk.c0 (h : Dk w b vs vw gm d) : w.cell? ⟨b, 0, none⟩ = some vs := h.box.cell 0
theorem Dk.c1 (h : Dk w b vs vw gm d) : w.cell? ⟨b, 1, none⟩ = some vw := h.box.cell 1
theorem Dk.c2 (h : Dk w b vs vw gm d) : w.cell? ⟨b, 2, none⟩ = some (.map (some gm)) := h.box.cell 2
theorem Dk.c3 (h : Dk w b vs vw gm d) : w.cell? ⟨b, 3, none⟩ = some (.bool d.power) := h.box.cell 3
theorem Dk.c4 (h : Dk w b vs vw gm d) : w.cell? ⟨b, 4, none⟩ = some (.bool d.lit) := h.box.cell 4
theorem Dk.c5 (h : Dk w b vs vw gm d) : w.cell? ⟨b, 5, none⟩ = some (.int .i64 d.left) := h.box.cell 5
theorem Dk.c6 (h : Dk w b vs vw gm d) : w.cell? ⟨b, 6, none⟩ = some (.string ⟨d.keep.toArray⟩) := h.box.cell 6
theorem Dk.c7 (h : Dk w b vs vw gm d) : w.cell? ⟨b, 7, none⟩ = some (.int .u64 d.acts) := h.box.cell 7
/-- The sectors lie in a block of their own. -/
theorem Dk.st_form (h : Dk w b vs vw gm d) : ∃ gs cap, vs = .slice (some ⟨gs, 0, none⟩) d.on.length cap ∧ d.on.length ≤ cap ∧ gs < w.heap.size := by
  have h1 := h.ok.some
  rcases h.st.2 with ⟨_, h0⟩ | ⟨g, cap, cur, hv, _, hg, hnc, _⟩
  · omega
  · exact ⟨g, cap, hv, hnc, (Array.getElem?_eq_some_iff.1 hg).1⟩
theorem Dk.wt_form (h : Dk w b vs vw gm d) : ∃ A cap, vw = .slice A d.wait.length cap ∧ d.wait.length ≤ cap := by
  rcases h.wt.2 with ⟨h0, h1⟩ | ⟨g, cap, cur, hv, _, hg, hnc, _⟩
  · exact ⟨none, 0, by rw [h0, h1], by omega⟩
  · exact ⟨_, cap, hv, hnc⟩

theorem powered_any (h : Dk w b vs vw gm d) : Calls Tryd.prog 39 #[.pointer (some ⟨b, 0, none⟩)] w fun r w' => r = .returned (.int .i64 (okOr d.power 4)) ∧ w = w' := by
  have c3 := h.c3
  clear h
  go_enter Tryd.func39, Tryd.ntmps39
  go_wp2_with fail
  refine (unless_any _ _ _).mono ?_
  rintro e w' ⟨rfl, rfl⟩
  go_wp2_with fail
  go_ret
  exact ⟨rfl, rfl⟩

/-- Is there such a sector? -/
def secB (d : Dm) (a : Int) : Bool := decide (0 ≤ a) && decide (a < d.on.length)
set_option maxHeartbeats 1000000 in
theorem sector_any (h : Dk w b vs vw gm d) (a : Int) (p : Nat) (hp : w.cell? ⟨p, 0, none⟩ = some (.int .i64 a)) :
    Calls Tryd.prog 62 #[.pointer (some ⟨b, 0, none⟩), .pointer (some ⟨p, 0, none⟩)] w fun r w' => r = .returned (.int .i64 (okOr (secB d a) 2)) ∧ ∃ n, w' = w.drewN n := by
  have c0 := h.c0
  obtain ⟨gs, cap, hv, _, _⟩ := h.st_form
  rw [hv] at c0
  have hs : secB d a = (decide (0 ≤ a) && decide (a < d.on.length)) := rfl
  have HS := Lib.hid hs
  clear h hv hs
  by_cases h0 : 0 ≤ a
  · have hd0 : decide (0 ≤ a) = true := by simpa using h0
    go_enter Tryd.func62, Tryd.ntmps62
    go_wp2
    go_quiet ((go_at_call 61; exact Calls.quiet_of_same ((unless_any _ _ _).mono fun _ _ hh => ⟨hh.1, hh.2.symm⟩)))
    go_wp2
    go_ret
    refine ⟨?_, _, rfl⟩
    rw [HS.out, hd0]

    simp
  · have hd0 : decide (0 ≤ a) = false := by simpa using h0
    go_enter Tryd.func62, Tryd.ntmps62
    go_wp2
    go_quiet ((go_at_call 61; exact Calls.quiet_of_same ((unless_any _ _ _).mono fun _ _ hh => ⟨hh.1, hh.2.symm⟩)))
    go_wp2
    go_ret
    refine ⟨?_, _, rfl⟩
    rw [HS.out, hd0]

    simp
theorem bytes_fill (A : Option Addr) (n c p : Nat) (hp : w.cell? ⟨p, 0, none⟩ = some (.slice A n c)) (x : Value) :
    Calls Tryd.prog 73 #[x, .pointer (some ⟨p, 0, none⟩)] w fun r w' => r = .returned (.int .i64 (okOr ((n : Int) == 512) 2)) ∧ w = w' := by
  go_enter Tryd.func73, Tryd.ntmps73
  go_wp2_with fail
  refine (unless_any _ _ _).mono ?_
  rintro e w' ⟨rfl, rfl⟩
  go_wp2_with fail
  go_ret
  exact ⟨by simp, rfl⟩
end

section
variable (w : World)
theorem sectorIs_any (a : Int) : Calls Tryd.prog 40 #[.int .i64 a] w fun r w' => r = .returned (.func (.func 62) #[] #[.pointer (some ⟨w.heap.size, 0, none⟩)]) ∧ w' = w.alloc (.cells #[.int .i64 a] 3) := by
  have hmf : ∀ (fn : Fn) (first cap : Array Value) (w : World), (Instr.makeFunc fn first cap).run Tryd.prog w = .ok (.func fn first cap) w := fun _ _ _ _ => rfl
  go_enter Tryd.func40, Tryd.ntmps40
  go_wp2
  go_ret
  exact ⟨rfl, rfl⟩
theorem bytesFill_any (A : Option Addr) (n c : Nat) : Calls Tryd.prog 48 #[.slice A n c] w fun r w' => r = .returned (.func (.func 73) #[] #[.pointer (some ⟨w.heap.size, 0, none⟩)]) ∧ w' = w.alloc (.cells #[.slice A n c] 63) := by
  have hmf : ∀ (fn : Fn) (first cap : Array Value) (w : World), (Instr.makeFunc fn first cap).run Tryd.prog w = .ok (.func fn first cap) w := fun _ _ _ _ => rfl
  go_enter Tryd.func48, Tryd.ntmps48
  go_wp2
  go_ret
  exact ⟨rfl, rfl⟩
end
end Go.Proofs.YtfcljcikajaedaaDoor
