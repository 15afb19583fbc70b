/- Begin: a state of a disk and its log, in both ways. No condition. -/
import Derived.Test.YtfcljcikajaedaaGreatDoorMg15
import Derived.Test.YtfcljcikajaedaaGreatDoorMg36
import Derived.Test.YtfcljcikajaedaaGreatDoorMg42
namespace Go.Proofs.YtfcljcikajaedaaGreatDoor
open Go.RowKit Go.Maps

/-- The document's own log as cells. -/
def mcs (l : Lm) (used : Int) : List Value := [.int .u64 l.h.g, .int .u64 l.h.f, .int .i64 l.h.n, .string ⟨l.h.note.toArray⟩, .int .i64 l.a, .int .u64 l.next, .int .i64 used, .bool l.dead]
def zm : List Value := [.int .u64 0, .int .u64 0, .int .i64 0, .string ⟨#[]⟩, .int .i64 0, .int .u64 0, .int .i64 0, .bool false]
/-- A state's cells. -/
def scs (b : Nat) (d : Dm) (vo vw : Value) (pl : Value) (ms : List Value) (is : Bool) : List Value := [.pointer (some ⟨b, 0, none⟩), vo, vw, .bool (!d.power), .int .i64 (leftZ d), .string ⟨d.keep.toArray⟩, .int .u64 d.acts, pl] ++ ms ++ [.bool is]
set_option maxRecDepth 100000 in
set_option maxHeartbeats 4000000 in
theorem begin_any (n : Nat) (h1 : 1 ≤ n) (h2 : n ≤ 4096) (w : World) :
    Calls Tryz.prog 7 #[.int .i64 n] w fun e w' => ∃ gs b vo vw, e = .returned (.tuple #[.pointer (some ⟨gs, 0, none⟩), .bool true]) ∧ Dsk (fun k => w.heap.size ≤ k) w' b (newDm n) ∧ Box w' gs 44 (scs b (newDm n) vo vw (.pointer none) zm false).toArray ∧ Rf w' vo vw (newDm n) ∧ w.heap.size ≤ gs ∧ Kp (fun _ => False) w w' := by
  go_enter Tryz.func7, Tryz.ntmps7
  go_wp2_with fail
  refine (dnew_any n h1 h2 w).mono ?_
  rintro e w1 ⟨b, rfl, hd, hk⟩
  have D1 := Lib.hid hd
  have K1 := Lib.hid hk
  clear hd hk
  go_wp2_with fail
  refine (rnew_any w1 n h2).mono ?_
  rintro e w2 ⟨vo, rfl, hrf, hk⟩
  simp only [rcs]
  have D2 := Lib.hid (D1.out.still hk)
  have K2 := Lib.hid (K1.out.trans hk)
  have RF := Lib.hid hrf
  clear hrf hk
  go_wp2_with fail
  go_ret2
  have hk := (Kp.refl (fun _ => False) w2).alloc (.cells (scs b (newDm n) vo (.slice none 0 0) (.pointer none) zm false).toArray 44)
  exact ⟨_, b, vo, .slice none 0 0, rfl, D2.out.still hk, Box.new w2 _ _, RF.out.still hk, K2.out.size, K2.out.trans hk⟩
end Go.Proofs.YtfcljcikajaedaaGreatDoor
