/- SHA-256 in plain words: what a block's rounds make of the words, on the model's own numbers. No condition. -/
import Derived.Laws.BitsAllLaws
namespace Go.Proofs.YtbchfpcdmkldeaaDoor

/-- x, turned to the right by n bits. -/
def rotZ (x : Int) (n : Nat) : Int := bits .or .u32 (x * 2 ^ (32 - n) % 4294967296) (x / 2 ^ n)
def s0Z (x : Int) : Int := bits .xor .u32 (bits .xor .u32 (rotZ x 7) (rotZ x 18)) (x / 8)
def s1Z (x : Int) : Int := bits .xor .u32 (bits .xor .u32 (rotZ x 17) (rotZ x 19)) (x / 1024)
def addZ (x y : Int) : Int := (x + y) % 4294967296

theorem bits_or_comm (x y : Int) : bits .or .u32 x y = bits .or .u32 y x := by
  show IntKind.u32.wrap ((BitVec.ofInt 32 x ||| BitVec.ofInt 32 y).toNat : Int) = IntKind.u32.wrap ((BitVec.ofInt 32 y ||| BitVec.ofInt 32 x).toNat : Int)
  rw [BitVec.or_comm]

/-- The numbers of turns that are used. -/
def turns : List Nat := [2, 6, 7, 11, 13, 17, 18, 19, 22, 25]

/-- The eight words that go round. -/
structure St where
  a : Int
  b : Int
  c : Int
  d : Int
  e : Int
  f : Int
  g : Int
  h : Int

def big0 (a : Int) : Int := bits .xor .u32 (bits .xor .u32 (rotZ a 2) (rotZ a 13)) (rotZ a 22)
def big1 (e : Int) : Int := bits .xor .u32 (bits .xor .u32 (rotZ e 6) (rotZ e 11)) (rotZ e 25)
def chZ (e f g : Int) : Int := bits .xor .u32 (bits .and .u32 e f) (bits .and .u32 (bits .xor .u32 IntKind.u32.max e) g)
def majZ (a b c : Int) : Int := bits .xor .u32 (bits .xor .u32 (bits .and .u32 a b) (bits .and .u32 a c)) (bits .and .u32 b c)
def St.t1 (s : St) (k w : Int) : Int := (s.h + big1 s.e + chZ s.e s.f s.g + k + w) % 4294967296
def St.t2 (s : St) : Int := addZ (big0 s.a) (majZ s.a s.b s.c)
def St.rnd (s : St) (k w : Int) : St := ⟨addZ (s.t1 k w) s.t2, s.a, s.b, s.c, addZ s.d (s.t1 k w), s.e, s.f, s.g⟩
/-- n rounds. -/
def St.rnds (K W : Nat → Int) (s : St) : Nat → St
  | 0 => s
  | n + 1 => (s.rnds K W n).rnd (K n) (W n)
def St.plus (s t : St) : St := ⟨addZ s.a t.a, addZ s.b t.b, addZ s.c t.c, addZ s.d t.d, addZ s.e t.e, addZ s.f t.f, addZ s.g t.g, addZ s.h t.h⟩
def St.list (s : St) : List Int := [s.a, s.b, s.c, s.d, s.e, s.f, s.g, s.h]
def St.cells (s : St) : List Value := s.list.map (.int .u32)

/-- The 16 words that lie in the ring when n are behind it. -/
def ringZ (b : Nat → Int) : Nat → Nat → Int
  | 0, j => b j
  | n + 1, j => if j < 15 then ringZ b n (j + 1) else addZ (ringZ b n 0) (addZ (addZ (s0Z (ringZ b n 1)) (ringZ b n 9)) (s1Z (ringZ b n 14)))
/-- The word number i of a block. -/
def wZ (b : Nat → Int) (i : Nat) : Int := ringZ b i 0

theorem ringZ_eq (b : Nat → Int) (n j : Nat) (hj : j < 16) : ringZ b n j = wZ b (n + j) := by
  induction j generalizing n with
  | zero => rfl
  | succ j ih =>
    have h := ih (n + 1) (by omega)
    rw [show n + (j + 1) = n + 1 + j by omega, ← h]
    show _ = if j < 15 then ringZ b n (j + 1) else _
    rw [if_pos (by omega)]
theorem wZ_small (b : Nat → Int) (i : Nat) (hi : i < 16) : wZ b i = b i := by
  have := ringZ_eq b 0 i hi
  rw [Nat.zero_add] at this
  rw [← this]
  rfl
theorem wZ_big (b : Nat → Int) (n : Nat) : wZ b (n + 16) = addZ (wZ b n) (addZ (addZ (s0Z (wZ b (n + 1))) (wZ b (n + 9))) (s1Z (wZ b (n + 14)))) := by
  have h := ringZ_eq b (n + 1) 15 (by omega)
  rw [show n + 16 = n + 1 + 15 by omega, ← h]
  show (if 15 < 15 then _ else _) = _
  rw [if_neg (by omega), ringZ_eq b n 0 (by omega), ringZ_eq b n 1 (by omega), ringZ_eq b n 9 (by omega), ringZ_eq b n 14 (by omega)]
  rfl
theorem addZ_eq (x y : Int) : addZ x y = (x + y) % 4294967296 := rfl
theorem addZ_assoc (x y z : Int) : addZ (addZ x y) z = addZ x (addZ y z) := by
  simp only [addZ_eq]
  omega

/-- A block's 16 words, out of its 64 bytes. -/
def wordZ (l : List UInt8) (i : Nat) : Int :=
  ((((l.getD (4 * i) 0).toNat * 256 + (l.getD (4 * i + 1) 0).toNat) * 256 + (l.getD (4 * i + 2) 0).toNat) * 256 + (l.getD (4 * i + 3) 0).toNat : Nat)
/-- What one block makes of the words. -/
def St.block (K : Nat → Int) (s : St) (l : List UInt8) : St := s.plus (s.rnds K (wZ (wordZ l)) 64)
/-- What n blocks make of the words: the bytes of l, 64 each. -/
def St.blocks (K : Nat → Int) (s : St) (l : List UInt8) : Nat → St
  | 0 => s
  | n + 1 => (s.blocks K l n).block K ((l.drop (64 * n)).take 64)
end Go.Proofs.YtbchfpcdmkldeaaDoor
