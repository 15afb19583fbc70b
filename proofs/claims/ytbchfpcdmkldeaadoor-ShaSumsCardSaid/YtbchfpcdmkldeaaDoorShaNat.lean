/- The same rounds on natural numbers, in a form that the kernel reckons fast; that it is the same. No condition. -/
import Derived.Test.YtbchfpcdmkldeaaDoorShaSum
namespace Go.Proofs.YtbchfpcdmkldeaaDoor

structure StN where
  a : Nat
  b : Nat
  c : Nat
  d : Nat
  e : Nat
  f : Nat
  g : Nat
  h : Nat
def StN.z (s : StN) : St := ⟨s.a, s.b, s.c, s.d, s.e, s.f, s.g, s.h⟩
structure StN.ok (s : StN) : Prop where
  a : s.a < 4294967296
  b : s.b < 4294967296
  c : s.c < 4294967296
  d : s.d < 4294967296
  e : s.e < 4294967296
  f : s.f < 4294967296
  g : s.g < 4294967296
  h : s.h < 4294967296
/-- Three turns at once, of a number that stands twice. -/
def tri (p q r y : Nat) : Nat := Nat.xor (Nat.shiftRight y p) (Nat.xor (Nat.shiftRight y q) (Nat.shiftRight y r))
def chN (e f g : Nat) : Nat := Nat.xor (Nat.land e f) (Nat.land (Nat.xor 4294967295 e) g)
def majN (a b c : Nat) : Nat := Nat.xor (Nat.xor (Nat.land a b) (Nat.land a c)) (Nat.land b c)
def rndN (s : StN) (kw : Nat) : StN :=
  let t1 := Nat.add (Nat.add s.h kw) (Nat.add (tri 6 11 25 (Nat.mul s.e 4294967297)) (chN s.e s.f s.g))
  ⟨Nat.mod (Nat.add t1 (Nat.add (tri 2 13 22 (Nat.mul s.a 4294967297)) (majN s.a s.b s.c))) 4294967296, s.a, s.b, s.c, Nat.mod (Nat.add s.d t1) 4294967296, s.e, s.f, s.g⟩
def plusN (s t : StN) : StN := ⟨(s.a + t.a) % 4294967296, (s.b + t.b) % 4294967296, (s.c + t.c) % 4294967296, (s.d + t.d) % 4294967296, (s.e + t.e) % 4294967296, (s.f + t.f) % 4294967296, (s.g + t.g) % 4294967296, (s.h + t.h) % 4294967296⟩
def blkN (kws : List Nat) (s : StN) : StN := plusN s (kws.foldl rndN s)
def iterN (kws : List Nat) : Nat → StN → StN
  | 0, s => s
  | n + 1, s => iterN kws n (blkN kws s)

theorem rot_nat (x n : Nat) (hx : x < 4294967296) (hn : n ∈ turns) : rotZ x n = (((x * 4294967297) >>> n % 4294967296 : Nat) : Int) := by
  have key : ∀ p q : Nat, q * p = 4294967296 → (∃ k, p = 2 ^ k) → 0 < q →
      bits .or .u32 ((x : Int) * (p : Int) % 4294967296) ((x : Int) / (q : Int)) = (((x * 4294967297) / q % 4294967296 : Nat) : Int) := by
    rintro p q hpq ⟨k, hk⟩ hq
    have h2 : x / q < p := by rw [Nat.div_lt_iff_lt_mul hq, Nat.mul_comm, hpq]; exact hx
    have h3 : x * p % 4294967296 = (x % q) * p := by rw [← hpq, Nat.mul_mod_mul_right]
    have h4 : (x * 4294967297) / q = x * p + x / q := by
      rw [show x * 4294967297 = q * (x * p) + x by rw [Nat.mul_comm x p, ← Nat.mul_assoc, hpq]; omega, Nat.mul_add_div hq]
    have h5 : (x % q) * p + x / q < 4294967296 := by
      have h6 : x % q + 1 ≤ q := Nat.mod_lt _ hq
      have h7 := Nat.mul_le_mul_right p h6
      rw [hpq, Nat.add_mul, Nat.one_mul] at h7
      omega
    have h1 : (x * 4294967297) / q % 4294967296 = (x % q) * p + x / q := by
      rw [h4, Nat.add_mod, h3, Nat.mod_eq_of_lt (show x / q < 4294967296 by omega), Nat.mod_eq_of_lt h5]
    have e1 : (x : Int) * ((p : Nat) : Int) % 4294967296 = ((x * p % 4294967296 : Nat) : Int) := by rw [Int.natCast_emod, Int.natCast_mul]; rfl
    have e2 : (x : Int) / (q : Int) = ((x / q : Nat) : Int) := by rw [Int.natCast_ediv]
    rw [e1, e2, u32_or_nat _ _ (Nat.mod_lt _ (by decide)) (Nat.lt_of_le_of_lt (Nat.div_le_self _ _) hx), h3, h1]
    subst hk
    have := Nat.shiftLeft_add_eq_or_of_lt (i := k) h2 (x % q)
    rw [Nat.shiftLeft_eq] at this
    rw [this]
  simp only [turns, List.mem_cons, List.not_mem_nil, or_false] at hn
  rcases hn with rfl | rfl | rfl | rfl | rfl | rfl | rfl | rfl | rfl | rfl
  all_goals
    rw [Nat.shiftRight_eq_div_pow]
    exact key _ _ (by decide) ⟨_, rfl⟩ (by decide)

theorem xor_lt (x y : Nat) (hx : x < 4294967296) (hy : y < 4294967296) : x ^^^ y < 4294967296 := Nat.xor_lt_two_pow (n := 32) hx hy
theorem tri_nat (p q r x : Nat) (hx : x < 4294967296) (hp : p ∈ turns) (hq : q ∈ turns) (hr : r ∈ turns) :
    bits .xor .u32 (bits .xor .u32 (rotZ x p) (rotZ x q)) (rotZ x r) = ((tri p q r (x * 4294967297) % 4294967296 : Nat) : Int) := by
  have m : ∀ y : Nat, y % 4294967296 < 4294967296 := fun y => Nat.mod_lt _ (by decide)
  rw [rot_nat x p hx hp, rot_nat x q hx hq, rot_nat x r hx hr, u32_xor_nat _ _ (m _) (m _), u32_xor_nat _ _ (xor_lt _ _ (m _) (m _)) (m _)]
  congr 1
  have hm := fun a b : Nat => Nat.xor_mod_two_pow (a := a) (b := b) (n := 32)
  show _ = ((x * 4294967297) >>> p ^^^ ((x * 4294967297) >>> q ^^^ (x * 4294967297) >>> r)) % 2 ^ 32
  rw [hm, hm, Nat.xor_assoc]
theorem ch_nat (e f g : Nat) (he : e < 4294967296) (hf : f < 4294967296) (hg : g < 4294967296) : chZ e f g = ((chN e f g : Nat) : Int) := by
  have hmax : IntKind.u32.max = ((4294967295 : Nat) : Int) := by decide
  rw [chZ, hmax, u32_xor_nat _ _ (by decide) he, u32_and_nat _ _ he hf, u32_and_nat _ _ (xor_lt _ _ (by decide) he) hg, u32_xor_nat _ _ (Nat.and_lt_two_pow (n := 32) _ hf) (Nat.and_lt_two_pow (n := 32) _ hg)]
  rfl
theorem maj_nat (a b c : Nat) (ha : a < 4294967296) (hb : b < 4294967296) (hc : c < 4294967296) : majZ a b c = ((majN a b c : Nat) : Int) := by
  rw [majZ, u32_and_nat _ _ ha hb, u32_and_nat _ _ ha hc, u32_and_nat _ _ hb hc, u32_xor_nat _ _ (Nat.and_lt_two_pow (n := 32) _ hb) (Nat.and_lt_two_pow (n := 32) _ hc), u32_xor_nat _ _ (xor_lt _ _ (Nat.and_lt_two_pow (n := 32) _ hb) (Nat.and_lt_two_pow (n := 32) _ hc)) (Nat.and_lt_two_pow (n := 32) _ hc)]
  rfl
theorem rnd_ok (s : StN) (h : s.ok) (kw : Nat) : (rndN s kw).ok :=
  ⟨Nat.mod_lt _ (by decide), h.a, h.b, h.c, Nat.mod_lt _ (by decide), h.e, h.f, h.g⟩
theorem rnd_nat (s : StN) (h : s.ok) (k w : Nat) : s.z.rnd k w = (rndN s ((k + w) % 4294967296)).z := by
  have e1 : big1 (s.e : Int) = _ := tri_nat 6 11 25 s.e h.e (by decide) (by decide) (by decide)
  have e2 : big0 (s.a : Int) = _ := tri_nat 2 13 22 s.a h.a (by decide) (by decide) (by decide)
  have e3 := ch_nat s.e s.f s.g h.e h.f h.g
  have e4 := maj_nat s.a s.b s.c h.a h.b h.c
  have hz : s.z.t1 k w = (((s.h + tri 6 11 25 (s.e * 4294967297) % 4294967296 + chN s.e s.f s.g + k + w) % 4294967296 : Nat) : Int) := by
    show ((s.h : Int) + big1 s.e + chZ s.e s.f s.g + k + w) % 4294967296 = _
    rw [e1, e3]
    omega
  have hz2 : s.z.t2 = (((tri 2 13 22 (s.a * 4294967297) % 4294967296 + majN s.a s.b s.c) % 4294967296 : Nat) : Int) := by
    show (big0 (s.a : Int) + majZ s.a s.b s.c) % 4294967296 = _
    rw [e2, e4]
    omega
  unfold St.rnd
  rw [hz, hz2]
  show St.mk _ _ _ _ _ _ _ _ = St.mk _ _ _ _ _ _ _ _
  have f1 : addZ (((s.h + tri 6 11 25 (s.e * 4294967297) % 4294967296 + chN s.e s.f s.g + k + w) % 4294967296 : Nat) : Int) (((tri 2 13 22 (s.a * 4294967297) % 4294967296 + majN s.a s.b s.c) % 4294967296 : Nat) : Int) = ((rndN s ((k + w) % 4294967296)).a : Int) := by
    show _ = ((((s.h + (k + w) % 4294967296) + (tri 6 11 25 (s.e * 4294967297) + chN s.e s.f s.g) + (tri 2 13 22 (s.a * 4294967297) + majN s.a s.b s.c)) % 4294967296 : Nat) : Int)
    unfold addZ
    omega
  have f2 : addZ s.z.d (((s.h + tri 6 11 25 (s.e * 4294967297) % 4294967296 + chN s.e s.f s.g + k + w) % 4294967296 : Nat) : Int) = ((rndN s ((k + w) % 4294967296)).e : Int) := by
    show addZ (s.d : Int) _ = (((s.d + ((s.h + (k + w) % 4294967296) + (tri 6 11 25 (s.e * 4294967297) + chN s.e s.f s.g))) % 4294967296 : Nat) : Int)
    unfold addZ
    omega
  rw [f1, f2]
  rfl
theorem plus_nat (s t : StN) : s.z.plus t.z = (plusN s t).z := by
  simp only [St.plus, StN.z, plusN, addZ]
  simp
theorem plus_ok (s t : StN) : (plusN s t).ok := by
  constructor <;> exact Nat.mod_lt _ (by decide)
theorem fold_ok (l : List Nat) : ∀ s : StN, s.ok → (l.foldl rndN s).ok := by
  induction l with
  | nil => exact fun s h => h
  | cons x r ih => exact fun s h => ih _ (rnd_ok s h x)

/-- A block's words, told beforehand: they are right. -/
structure Cert (l : List UInt8) (kws : List Nat) : Prop where
  len : kws.length = 64
  word : ∀ i, i < 64 → ∃ k w : Nat, kZ i = k ∧ wZ (wordZ l) i = w ∧ kws[i]? = some ((k + w) % 4294967296)
theorem Cert.rnds {l : List UInt8} {kws : List Nat} (h : Cert l kws) (s : StN) (hs : s.ok) (n : Nat) (hn : n ≤ 64) : s.z.rnds kZ (wZ (wordZ l)) n = ((kws.take n).foldl rndN s).z := by
  induction n with
  | zero => rfl
  | succ n ih =>
    obtain ⟨k, w, e1, e2, e3⟩ := h.word n (by omega)
    rw [St.rnds, ih (by omega), e1, e2, rnd_nat _ (fold_ok _ _ hs), List.take_add_one, e3, Option.toList_some, List.foldl_append]
    rfl
theorem Cert.block {l : List UInt8} {kws : List Nat} (h : Cert l kws) (s : StN) (hs : s.ok) : s.z.block kZ l = (blkN kws s).z := by
  rw [St.block, h.rnds s hs 64 (Nat.le_refl _), List.take_of_length_le (by rw [h.len]; exact Nat.le_refl _), plus_nat]
  rfl

/-! ### In the kernel's own steps -/
noncomputable def fz {α : Type} (x : Nat) (k : Nat → α) : α := Nat.rec (motive := fun _ => α) (k 0) (fun n _ => k (Nat.succ n)) x
theorem fz_eq {α : Type} (x : Nat) (k : Nat → α) : fz x k = k x := by cases x <;> rfl
abbrev K8 := Nat → Nat → Nat → Nat → Nat → Nat → Nat → Nat → Bool
noncomputable def rnds (l : List Nat) : Nat → Nat → Nat → Nat → Nat → Nat → Nat → Nat → K8 → Bool :=
  List.rec (motive := fun _ => Nat → Nat → Nat → Nat → Nat → Nat → Nat → Nat → K8 → Bool)
    (fun a b c d e f g h k => k a b c d e f g h)
    (fun kw _ ih a b c d e f g h k =>
      (fun y z => (fun t1 => fz (Nat.mod (Nat.add d t1) 4294967296) (fun e' => fz (Nat.mod (Nat.add t1 (Nat.add (Nat.xor (Nat.shiftRight z 2) (Nat.xor (Nat.shiftRight z 13) (Nat.shiftRight z 22))) (Nat.xor (Nat.xor (Nat.land a b) (Nat.land a c)) (Nat.land b c)))) 4294967296) (fun a' => ih a' a b c e' e f g k)))
        (Nat.add (Nat.add h kw) (Nat.add (Nat.xor (Nat.shiftRight y 6) (Nat.xor (Nat.shiftRight y 11) (Nat.shiftRight y 25))) (Nat.xor (Nat.land e f) (Nat.land (Nat.xor 4294967295 e) g))))) (Nat.mul e 4294967297) (Nat.mul a 4294967297)) l
theorem rnds_eq (l : List Nat) : ∀ (s : StN) (k : K8), rnds l s.a s.b s.c s.d s.e s.f s.g s.h k = k (l.foldl rndN s).a (l.foldl rndN s).b (l.foldl rndN s).c (l.foldl rndN s).d (l.foldl rndN s).e (l.foldl rndN s).f (l.foldl rndN s).g (l.foldl rndN s).h := by
  induction l with
  | nil => exact fun s k => rfl
  | cons x r ih =>
    intro s k
    rw [List.foldl_cons, ← ih (rndN s x) k]
    show fz _ (fun e' => fz _ (fun a' => rnds r a' s.a s.b s.c e' s.e s.f s.g k)) = _
    rw [fz_eq, fz_eq]
    rfl
noncomputable def blks (kws : List Nat) (n : Nat) : Nat → Nat → Nat → Nat → Nat → Nat → Nat → Nat → K8 → Bool :=
  Nat.rec (motive := fun _ => Nat → Nat → Nat → Nat → Nat → Nat → Nat → Nat → K8 → Bool)
    (fun a b c d e f g h k => k a b c d e f g h)
    (fun _ ih A B C D E F G H k => rnds kws A B C D E F G H (fun a b c d e f g h =>
      fz (Nat.mod (Nat.add A a) 4294967296) fun A => fz (Nat.mod (Nat.add B b) 4294967296) fun B => fz (Nat.mod (Nat.add C c) 4294967296) fun C => fz (Nat.mod (Nat.add D d) 4294967296) fun D => fz (Nat.mod (Nat.add E e) 4294967296) fun E => fz (Nat.mod (Nat.add F f) 4294967296) fun F => fz (Nat.mod (Nat.add G g) 4294967296) fun G => fz (Nat.mod (Nat.add H h) 4294967296) fun H => ih A B C D E F G H k)) n
theorem blks_eq (kws : List Nat) (n : Nat) : ∀ (s : StN) (k : K8), blks kws n s.a s.b s.c s.d s.e s.f s.g s.h k = k (iterN kws n s).a (iterN kws n s).b (iterN kws n s).c (iterN kws n s).d (iterN kws n s).e (iterN kws n s).f (iterN kws n s).g (iterN kws n s).h := by
  induction n with
  | zero => exact fun s k => rfl
  | succ n ih =>
    intro s k
    rw [iterN, ← ih (blkN kws s) k]
    show rnds kws s.a s.b s.c s.d s.e s.f s.g s.h (fun a b c d e f g h =>
      fz (Nat.mod (Nat.add s.a a) 4294967296) fun A => fz (Nat.mod (Nat.add s.b b) 4294967296) fun B => fz (Nat.mod (Nat.add s.c c) 4294967296) fun C => fz (Nat.mod (Nat.add s.d d) 4294967296) fun D => fz (Nat.mod (Nat.add s.e e) 4294967296) fun E => fz (Nat.mod (Nat.add s.f f) 4294967296) fun F => fz (Nat.mod (Nat.add s.g g) 4294967296) fun G => fz (Nat.mod (Nat.add s.h h) 4294967296) fun H => blks kws n A B C D E F G H k) = _
    rw [rnds_eq]
    simp only [fz_eq]
    rfl
noncomputable def is8 (t : StN) : K8 := fun a b c d e f g h => and (Nat.beq a t.a) (and (Nat.beq b t.b) (and (Nat.beq c t.c) (and (Nat.beq d t.d) (and (Nat.beq e t.e) (and (Nat.beq f t.f) (and (Nat.beq g t.g) (Nat.beq h t.h)))))))
theorem is8_eq (t : StN) (a b c d e f g h : Nat) (hh : is8 t a b c d e f g h = true) : (⟨a, b, c, d, e, f, g, h⟩ : StN) = t := by
  simp only [is8, Bool.and_eq_true] at hh
  obtain ⟨h1, h2, h3, h4, h5, h6, h7, h8⟩ := hh
  cases t
  simp only at *
  rw [Nat.eq_of_beq_eq_true h1, Nat.eq_of_beq_eq_true h2, Nat.eq_of_beq_eq_true h3, Nat.eq_of_beq_eq_true h4, Nat.eq_of_beq_eq_true h5, Nat.eq_of_beq_eq_true h6, Nat.eq_of_beq_eq_true h7, Nat.eq_of_beq_eq_true h8]
/-- What the kernel reckoned, as an equation. -/
theorem iter_of (kws : List Nat) (n : Nat) (s t : StN) (h : blks kws n s.a s.b s.c s.d s.e s.f s.g s.h (is8 t) = true) : iterN kws n s = t := by
  rw [blks_eq] at h
  exact is8_eq t _ _ _ _ _ _ _ _ h
end Go.Proofs.YtbchfpcdmkldeaaDoor
