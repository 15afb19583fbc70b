/- What both laws ask besides: a checksum that is known. Condition: the table of half bytes reads as the program's text lays it. -/
import Derived.Test.YtjlijaiihnjibaaDoorCrcSum
import Derived.Lib.SmallJoins
namespace Go.Proofs.YtjlijaiihnjibaaDoor
open Go.RowKit

def digits : List UInt8 := [49, 50, 51, 52, 53, 54, 55, 56, 57]
theorem crc_digits : crcN digits = 3808858755 := by decide +kernel
theorem crc_none : crcN [] = 0 := by decide +kernel
theorem Tbl.alloc {w : World} (h : Tbl w) (o : Obj) : Tbl (w.alloc o) := fun i hi =>
  (World.cell?_alloc_lt w o ⟨0, i, none⟩ (World.block_lt_of_cell? w ⟨0, i, none⟩ (h i hi))).trans (h i hi)
theorem rd_mark (w : World) (t : TypeId) (l : List UInt8) (f : Nat × Nat) (g : Nat) (hg : g = w.heap.size) : Rd (w.alloc (.cells (bcs l).toArray t f)) (some ⟨g, 0, none⟩) l :=
  .inr ⟨_, 0, rfl, fun j u hu => by rw [Joins.cell_alloc_mark_at w _ t f g _ hg, Nat.zero_add]; simp [bcs, hu]⟩
theorem sum_known (A : Option Addr) (l : List UInt8) (n c : Nat) (v : Int) (w : World) (hn : l.length = n) (hl : n ≤ c) (hm : c ≤ maxLen) (hr : Rd w A l) (ht : Tbl w) (hv : ((crcN l : Nat) : Int) = v) :
    Calls Tryd.prog 7 #[.slice A n c] w fun e w' => e = .returned (.int .u32 v) ∧ w = w' := by
  subst hn; subst hv
  exact sum_any A l c w hl hm hr ht
theorem ok_known (A : Option Addr) (l : List UInt8) (n c k : Nat) (b : Bool) (w : World) (hn : l.length = n) (hl : n ≤ c) (hm : c ≤ maxLen) (hr : Rd w A l) (ht : Tbl w) (hv : decide (crcN l = k) = b) :
    Calls Tryd.prog 8 #[.slice A n c, .int .u32 k] w fun e w' => e = .returned (.bool b) ∧ w = w' := by
  subst hn; subst hv
  exact ok_any A l c k w hl hm hr ht
def dig9 : Array Value := (bcs digits).toArray
theorem dig9_eq : #[Value.int .u8 49, .int .u8 50, .int .u8 51, .int .u8 52, .int .u8 53, .int .u8 54, .int .u8 55, .int .u8 56, .int .u8 57] = dig9 := rfl

set_option maxHeartbeats 400000 in
theorem wakes_true (w : World) (ht : Tbl w) :
    Calls Tryd.prog 5 #[] w fun e w' => e = .returned (.bool true) ∧ Kp (fun _ => False) w w' := by
  have Ht := Lib.hid ht
  clear ht
  have kc := fun (w : World) (C : Array Value) (g : Nat) (hg : g = w.heap.size) => Joins.run_convert_bytes_const_at (P := Tryd.prog) w 22 5 C 9 9 g hg Tryd.underlying22 Tryd.underlying5
  go_enter Tryd.func5, Tryd.ntmps5
  go_wp2_with fail
  rw [dig9_eq]
  have hr1 := Lib.hid (rd_mark w 5 digits (9, 10) w.heap.size rfl)
  have Ht1 := Lib.hid (Ht.out.alloc (.cells dig9 5 (9, 10)))
  have k1 := Lib.hid ((Kp.refl (fun _ => False) w).alloc (.cells dig9 5 (9, 10)))
  have hr1' : Hid (Rd (w.alloc (.cells dig9 5 (9, 10))) (some ⟨w.heap.size, 0, none⟩) digits) := hr1
  clear hr1
  generalize w.alloc (.cells dig9 5 (9, 10)) = w1 at *
  generalize hA : some (⟨w.heap.size, 0, none⟩ : Addr) = A at *
  clear hA
  go_wp2_with fail
  refine (sum_known _ digits 9 9 3808858755 w1 rfl (by decide) (by decide) hr1'.out Ht1.out (by rw [crc_digits]; rfl)).mono ?_
  rintro e w' ⟨rfl, rfl⟩
  go_wp2_with fail
  refine (sum_known _ [] 0 0 0 w1 rfl (by decide) (by decide) (Rd.nil _ _) Ht1.out (by rw [crc_none]; rfl)).mono ?_
  rintro e w' ⟨rfl, rfl⟩
  go_wp2_with fail
  rw [dig9_eq]
  have hr2 : Hid (Rd (w1.alloc (.cells dig9 5 (9, 10))) (some ⟨w1.heap.size, 0, none⟩) digits) := Lib.hid (rd_mark w1 5 digits (9, 10) w1.heap.size rfl)
  have Ht2 := Lib.hid (Ht1.out.alloc (.cells dig9 5 (9, 10)))
  have k2 := Lib.hid (k1.out.alloc (.cells dig9 5 (9, 10)))
  generalize w1.alloc (.cells dig9 5 (9, 10)) = w2 at *
  generalize hA : some (⟨w1.heap.size, 0, none⟩ : Addr) = A2 at *
  clear hA
  refine (ok_known _ digits 9 9 3808858755 true w2 rfl (by decide) (by decide) hr2.out Ht2.out (by rw [crc_digits]; rfl)).mono ?_
  rintro e w' ⟨rfl, rfl⟩
  go_wp2_with fail
  refine (ok_known _ [] 0 0 1 false w2 rfl (by decide) (by decide) (Rd.nil _ _) Ht2.out (by rw [crc_none]; rfl)).mono ?_
  rintro e w' ⟨rfl, rfl⟩
  go_wp2_with fail
  go_ret
  exact ⟨rfl, k2.out⟩
end Go.Proofs.YtjlijaiihnjibaaDoor
