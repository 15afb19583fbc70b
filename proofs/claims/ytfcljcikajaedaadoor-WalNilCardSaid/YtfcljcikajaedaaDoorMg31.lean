/- wal: whether a number of sectors, a note may be; a sheet's place; the head that follows; what a log says ahead of all else. Conditions: a head that may be. -/
import Derived.Test.YtfcljcikajaedaaDoorMg30
import Derived.Test.YtfcljcikajaedaaDoorMg3
namespace Go.Proofs.YtfcljcikajaedaaDoor
open Go.RowKit

/-- A head as a value, and as cells. -/
def hcs (h : Hd) (a : Nat) : List Value := [.int .u64 h.g, .int .u64 h.f, .int .i64 h.n, .string ⟨h.note.toArray⟩, .int .i64 a]
theorem hcs_one (h : Hd) (a : Nat) : ∀ v ∈ hcs h a, v.oneCell' = true := by
  intro v hv
  simp only [hcs, List.mem_cons, List.not_mem_nil, or_false] at hv
  rcases hv with rfl | rfl | rfl | rfl | rfl <;> rfl
theorem info_head : (Tryd.prog.info? 39).map (·.size) = some 5 := by kernel_rfl
theorem note_size (l : List UInt8) : (⟨l.toArray⟩ : ByteArray).size = l.length := by show l.toArray.size = l.length; simp
theorem wrap_next (n : Nat) : IntKind.u64.wrap ((n : Int) + 1) = (((n + 1) % 18446744073709551616 : Nat) : Int) := by
  simp [IntKind.wrap, IntKind.bits, IntKind.signed]
def secsB (n : Int) : Bool := decide (96 ≤ n) && decide (n ≤ 512)
def noteB (l : List UInt8) : Bool := decide (l.length ≤ 64)
set_option maxHeartbeats 400000 in
theorem maySectors_any (n : Int) (w : World) :
    Calls Tryd.prog 18 #[.int .i64 n] w fun e w' => e = .returned (.bool (secsB n)) ∧ w = w' := by
  have e : secsB n = (decide (96 ≤ n) && decide (n ≤ 512)) := rfl
  by_cases h1 : 96 ≤ n
  · by_cases h2 : n ≤ 512
    · have h3 : ¬ 512 < n := by omega
      rw [show secsB n = true by rw [e]; simp [h1, h2]]
      clear e
      go_enter Tryd.func18, Tryd.ntmps18
      go_wp2_with fail
      go_ret
      exact ⟨rfl, rfl⟩
    · have h3 : 512 < n := by omega
      rw [show secsB n = false by rw [e]; simp [h2]]
      clear e
      go_enter Tryd.func18, Tryd.ntmps18
      go_wp2_with fail
      go_ret
      exact ⟨rfl, rfl⟩
  · have h3 : n < 96 := by omega
    rw [show secsB n = false by rw [e]; simp [h1]]
    clear e
    go_enter Tryd.func18, Tryd.ntmps18
    go_wp2_with fail
    go_ret
    exact ⟨rfl, rfl⟩
set_option maxHeartbeats 400000 in
theorem mayNote_any (l : List UInt8) (w : World) :
    Calls Tryd.prog 19 #[.string ⟨l.toArray⟩] w fun e w' => e = .returned (.bool (noteB l)) ∧ w = w' := by
  have hs := note_size l
  by_cases h1 : l.length ≤ 64
  · have hd : decide ((l.length : Int) ≤ 64) = true := by simp; omega
    rw [show noteB l = true by simp [noteB, h1]]
    clear hs
    go_enter Tryd.func19, Tryd.ntmps19
    go_wp2_with fail
    go_ret
    exact ⟨rfl, rfl⟩
  · have hd : decide ((l.length : Int) ≤ 64) = false := by simp; omega
    rw [show noteB l = false by simp [noteB, h1]]
    clear hs
    go_enter Tryd.func19, Tryd.ntmps19
    go_wp2_with fail
    go_ret
    exact ⟨rfl, rfl⟩
set_option maxHeartbeats 400000 in
theorem place_any (q n : Nat) (w : World) (_hq : q < 18446744073709551616) (h0 : 0 < n) (hn : n ≤ 512) :
    Calls Tryd.prog 30 #[.int .u64 q, .int .i64 n] w fun e w' => e = .returned (.int .i64 ((2 + q % n : Nat) : Int)) ∧ w = w' := by
  have hm := Nat.mod_lt q h0
  have hw : IntKind.u64.wrap (n : Int) = (n : Int) := IntWalk.u64_in _ (by omega)
  clear _hq
  go_enter Tryd.func30, Tryd.ntmps30
  go_wp2_with fail
  go_ret
  refine ⟨?_, rfl⟩
  rw [Int.natCast_add, Int.natCast_emod]
  rfl
set_option maxHeartbeats 1000000 in
theorem follow_any (h : Hd) (a f : Nat) (w : World) (ha : a ≤ 1) :
    Calls Tryd.prog 20 #[.agg (hcs h a).toArray, .int .u64 f] w fun e w' => e = .returned (.agg (hcs ⟨(h.g + 1) % 18446744073709551616, f, h.n, h.note⟩ (1 - a)).toArray) ∧ Kp (fun _ => False) w w' := by
  obtain ⟨Hr⟩ : Nonempty (Hid (Tryd.f20.results = #[.cell 4 39])) := ⟨Lib.hid rfl⟩
  simp only [hcs]
  go_enter Tryd.func20, Tryd.ntmps20
  go_wp2_with fail
  have e1 : IntKind.u64.wrap ((h.g : Int) + 1) = (((h.g + 1) % 18446744073709551616 : Nat) : Int) := wrap_next h.g
  have e2 : ((1 - a : Nat) : Int) = 1 - (a : Int) := by omega
  rw [e2, ← e1]
  refine bodyPost_ret (v := .agg #[.int .u64 (IntKind.u64.wrap ((h.g : Int) + 1)), .int .u64 f, .int .i64 h.n, .string ⟨h.note.toArray⟩, .int .i64 (1 - (a : Int))]) ?_ rfl ⟨rfl, ((Kp.refl _ w).alloc _).alloc _⟩
  have hb := Box.new (w.alloc (.cells #[.int .u64 (IntKind.u64.wrap ((h.g : Int) + 1)), .int .u64 f, .int .i64 h.n, .string ⟨h.note.toArray⟩, .int .i64 (1 - (a : Int))] 39)) 39 #[.int .u64 (IntKind.u64.wrap ((h.g : Int) + 1)), .int .u64 f, .int .i64 h.n, .string ⟨h.note.toArray⟩, .int .i64 (1 - (a : Int))]
  rw [World.size_alloc] at hb
  exact results_cell_row Hr.out _ _ (w.heap.size + 1) 39 _ (0, 0) _ rfl hb Tryd.underlying39 rfl info_head
/-- A log in memory. -/
def lcs (b : Nat) (l : Lm) : Array Value := #[.pointer (some ⟨b, 0, none⟩), .int .u64 l.h.g, .int .u64 l.h.f, .int .i64 l.h.n, .string ⟨l.h.note.toArray⟩, .int .i64 l.a, .int .u64 l.next, .int .i64 l.left, .bool l.dead]
set_option maxHeartbeats 400000 in
theorem ready_nil (w : World) :
    Calls Tryd.prog 22 #[.pointer none] w fun e w' => e = .returned (.int .i64 1) ∧ w = w' := by
  go_enter Tryd.func22, Tryd.ntmps22
  go_wp2_with fail
  go_ret
  exact ⟨rfl, rfl⟩
set_option maxHeartbeats 400000 in
theorem ready_any (g b : Nat) (l : Lm) (w : World) (h : Box w g 47 (lcs b l)) :
    Calls Tryd.prog 22 #[.pointer (some ⟨g, 0, none⟩)] w fun e w' => e = .returned (.int .i64 (if l.dead then 4 else 0)) ∧ w = w' := by
  have h8 := h.cell 8
  simp only [lcs] at h8
  clear h
  obtain ⟨dd, hdd⟩ : ∃ dd, l.dead = dd := ⟨_, rfl⟩
  rw [hdd] at h8 ⊢
  clear hdd
  rcases dd with _ | _
  all_goals
    simp at h8
    go_enter Tryd.func22, Tryd.ntmps22
    go_wp2_with fail
    go_ret
    exact ⟨rfl, rfl⟩
set_option maxHeartbeats 400000 in
theorem hear_any (g b : Nat) (l : Lm) (e0 : Int) (w : World) (h : Box w g 47 (lcs b l)) :
    Calls Tryd.prog 24 #[.pointer (some ⟨g, 0, none⟩), .int .i64 e0] w fun e w' => e = .returned (.int .i64 e0) ∧ Box w' g 47 (lcs b { l with dead := l.dead || e0 == 4 }) ∧ Kp (fun k => k = g) w w' := by
  have h8 := h.cell 8
  have f8 := h.free 8
  have hp := fun u => h.put 8 u
  simp only [lcs] at h8 hp
  obtain ⟨dd, hdd⟩ : ∃ dd, l.dead = dd := ⟨_, rfl⟩
  rw [hdd] at h8 hp
  obtain ⟨ee, hee⟩ : ∃ ee, (e0 == 4) = ee := ⟨_, rfl⟩
  have HP := Lib.hid hp
  have HD := Lib.hid hdd
  have HE := Lib.hid hee
  clear h hp hdd
  rcases dd with _ | _
  all_goals
    simp at h8
    go_enter Tryd.func24, Tryd.ntmps24
    go_wp2_with fail
    go_ret
    refine ⟨rfl, ?_, Kp.one _ _ _ _⟩
    simp only [lcs, HD.out, HE.out]
    exact HP.out _
end Go.Proofs.YtfcljcikajaedaaDoor
