/- What both laws ask besides: a checksum that is known. Condition: the table of half bytes reads as the program's text lays it. -/
import Derived.Test.YtcgfnfejacgaeaaDoorCrcSum
import Derived.Lib.SmallJoins
namespace Go.Proofs.YtcgfnfejacgaeaaDoor
open Go.RowKit

def digits : List UInt8 := [49, 50, 51, 52, 53, 54, 55, 56, 57]
theorem crc_digits : crcN digits = 3808858755 := by decide +kernel
theorem crc_none : crcN [] = 0 := by decide +kernel
theorem Tbl.alloc {w : World} (h : Tbl w) (o : Obj) : Tbl (w.alloc o) := fun i hi =>
  (World.cell?_alloc_lt w o ⟨0, i, none⟩ (World.block_lt_of_cell? w ⟨0, i, none⟩ (h i hi))).trans (h i hi)
theorem rd_mark (w : World) (t : TypeId) (l : List UInt8) (f : Nat × Nat) (g : Nat) (hg : g = w.heap.size) : Rd (w.alloc (.cells (bcs l).toArray t f)) (some ⟨g, 0, none⟩) l :=
  .inr ⟨_, 0, rfl, fun j u hu => by rw [Joins.cell_alloc_mark_at w _ t f g _ hg, Nat.zero_add]; simp [bcs, hu]⟩
theorem sum_known (A : Option Addr) (l : List UInt8) (n c : Nat) (v : Int) (w : World) (hn : l.length = n) (hl : n ≤ c) (hm : c ≤ maxLen) (hr : Rd w A l) (ht : Tbl w) (hv : ((crcN l : Nat) : Int) = v) :
    Calls Tryd.prog 13 #[.slice A n c] w fun e w' => e = .returned (.int .u32 v) ∧ w = w' := by
  subst hn; subst hv
  exact sum_any A l c w hl hm hr ht
theorem ok_known (A : Option Addr) (l : List UInt8) (n c k : Nat) (b : Bool) (w : World) (hn : l.length = n) (hl : n ≤ c) (hm : c ≤ maxLen) (hr : Rd w A l) (ht : Tbl w) (hv : decide (crcN l = k) = b) :
    Calls Tryd.prog 14 #[.slice A n c, .int .u32 k] w fun e w' => e = .returned (.bool b) ∧ w = w' := by
  subst hn; subst hv
  exact ok_any A l c k w hl hm hr ht
def dig9 : Array Value := (bcs digits).toArray
theorem dig9_eq : #[Value.int .u8 49, .int .u8 50, .int .u8 51, .int .u8 52, .int .u8 53, .int .u8 54, .int .u8 55, .int .u8 56, .int .u8 57] = dig9 := rfl

end Go.Proofs.YtcgfnfejacgaeaaDoor
