/- What the opener's generic reader answers at hashes, which are arrays and live in blocks of their own. -/
import Derived.Test.YtjapnkpicefadaaRead
import Derived.Deep.Cut
namespace Go.Proofs.Ytjapnkpicefadaa
open Go.RowKit

theorem Kp.setRow {S : Nat → Prop} {w w' : World} (h : Kp S w w') {g : Nat} (hp : w.heap.size ≤ g ∨ S g) (cs : Array Value) : Kp S w (w'.setRow g cs) :=
  ⟨h.os, h.tape, h.output, by have := h.size; simpa using this, fun k hk hs => by
    rw [setRow_other w' g k cs (by rintro rfl; rcases hp with hp | hp; omega; exact hs hp)]
    exact h.block k hk hs⟩
theorem Box.setRow {w : World} {g : Nat} {t : TypeId} {cs : Array Value} (h : Box w g t cs) (cs' : Array Value) : Box (w.setRow g cs') g t cs' := setRow_heap w g cs cs' t (0, 0) h
def zeros32 : List UInt8 := List.replicate 32 0
theorem zeros32_length : zeros32.length = 32 := rfl
theorem zero_bcs : (#[Value.int IntKind.u8 0, Value.int IntKind.u8 0, Value.int IntKind.u8 0, Value.int IntKind.u8 0, Value.int IntKind.u8 0, Value.int IntKind.u8 0, Value.int IntKind.u8 0, Value.int IntKind.u8 0, Value.int IntKind.u8 0, Value.int IntKind.u8 0, Value.int IntKind.u8 0, Value.int IntKind.u8 0, Value.int IntKind.u8 0, Value.int IntKind.u8 0, Value.int IntKind.u8 0, Value.int IntKind.u8 0, Value.int IntKind.u8 0, Value.int IntKind.u8 0, Value.int IntKind.u8 0, Value.int IntKind.u8 0, Value.int IntKind.u8 0, Value.int IntKind.u8 0, Value.int IntKind.u8 0, Value.int IntKind.u8 0, Value.int IntKind.u8 0, Value.int IntKind.u8 0, Value.int IntKind.u8 0, Value.int IntKind.u8 0, Value.int IntKind.u8 0, Value.int IntKind.u8 0, Value.int IntKind.u8 0, Value.int IntKind.u8 0] : Array Value) = (bcs zeros32).toArray := by rfl
theorem Opn.on {G : Nat → Prop} {w w' : World} {b g : Nat} {l : List UInt8} {f : Option Int} (h : Opn (fun k => G k ∧ k ≠ g) w b l f) (hk : Kp (fun k => k = g) w w') : Opn G w' b l f :=
  (h.kp hk fun _ hk => hk.2).mono fun _ hk => hk.1
theorem Kp.laid (w : World) (o : Obj) (g : Nat) (cs : Array Value) : Kp (fun k => k = g) w ((w.alloc o).setRow g cs) := ((Kp.refl (fun k => k = g) w).alloc o).setRow (.inr rfl) cs

end Go.Proofs.Ytjapnkpicefadaa
