/- Chunks and their bytes: plain mathematics, no program. -/
import Derived.Test.YtoonihhjdmkflaaNdMath
namespace Go.Proofs.Ytoonihhjdmkflaa
open Go.RowKit

/-- A child; a chunk. -/
structure Kd where
  name : ByteArray
  dir : Bool
  hash : List UInt8
  ht : Nat
  sz : Nat
structure Ck where
  kind : Nat
  data : ByteArray
  kids : List Kd
theorem Kd.ext' {a b : Kd} (h1 : a.name = b.name) (h2 : a.dir = b.dir) (h3 : a.hash = b.hash) (h4 : a.ht = b.ht) (h5 : a.sz = b.sz) : a = b := by
  cases a; cases b; simp_all
instance : DecidableEq Kd := fun a b =>
  if h : a.name = b.name ∧ a.dir = b.dir ∧ a.hash = b.hash ∧ a.ht = b.ht ∧ a.sz = b.sz then isTrue (Kd.ext' h.1 h.2.1 h.2.2.1 h.2.2.2.1 h.2.2.2.2) else isFalse fun e => h ⟨congrArg Kd.name e, congrArg Kd.dir e, congrArg Kd.hash e, congrArg Kd.ht e, congrArg Kd.sz e⟩
theorem Ck.ext' {a b : Ck} (h1 : a.kind = b.kind) (h2 : a.data = b.data) (h3 : a.kids = b.kids) : a = b := by
  cases a; cases b; simp_all
instance : DecidableEq Ck := fun a b =>
  if h : a.kind = b.kind ∧ a.data = b.data ∧ a.kids = b.kids then isTrue (Ck.ext' h.1 h.2.1 h.2.2) else isFalse fun e => h ⟨congrArg Ck.kind e, congrArg Ck.data e, congrArg Ck.kids e⟩
def kd0 : Kd := ⟨⟨#[]⟩, false, List.replicate 32 0, 0, 0⟩
instance : Inhabited Kd := ⟨kd0⟩
def ck0 : Ck := ⟨0, ⟨#[]⟩, []⟩
def Kd.Ok (k : Kd) : Prop := k.hash.length = 32 ∧ k.ht < 256 ∧ k.sz < 4294967296
def Ck.Ok (c : Ck) : Prop := c.kind < 256 ∧ ∀ k ∈ c.kids, k.Ok
theorem kd0_ok : kd0.Ok := ⟨by simp [kd0], by simp [kd0], by simp [kd0]⟩
theorem ck0_ok : ck0.Ok := ⟨by simp [ck0], by simp [ck0]⟩
/-- Whether a kind has children. -/
def ldB (kind : Nat) : Bool := decide (kind = 2 ∨ kind = 3)
/-- The greatest height, from n on. -/
def hiN : Nat → List Kd → Nat
  | n, [] => n
  | n, k :: r => hiN (max n k.ht) r
def smN (l : List Kd) : Nat := (l.map Kd.sz).sum
def heightN (c : Ck) : Nat := if ldB c.kind = true then hiN 0 c.kids + 1 else 0
def sizeN (c : Ck) : Nat := if ldB c.kind = true then (if c.kind = 2 then smN c.kids else 0) else c.data.size
def entB (k : Kd) : Bool := !(decide (k.name = ⟨#[]⟩) && !k.dir)
def rise1 (p : ByteArray) (k : Kd) : Bool := !(ble k.name p || decide (16 < k.name.size))
def risesB : ByteArray → List Kd → Bool
  | _, [] => true
  | p, k :: r => rise1 p k && risesB k.name r
def leadB (c : Ck) : Bool := decide (c.data.size = 0) && decide (c.kids.length ≤ 6) && decide (heightN c ≤ 255)
/-- Whether a chunk may be. -/
def mayB (c : Ck) : Bool :=
  if c.kind = 1 then decide (c.kids.length = 0) && decide (c.data.size ≤ 240)
  else if c.kind = 2 then leadB c && decide (0 < c.kids.length) && decide (sizeN c ≤ 4294967295) && !(c.kids.any entB)
  else if c.kind = 3 then leadB c && risesB ⟨#[]⟩ c.kids
  else false
/-- What stands ahead of a directory's child. -/
def hdL (k : Kd) : List UInt8 := beN 1 (if k.dir = true then 1 else 0) ++ (beN 1 k.name.size ++ byt k.name)
def tlL (k : Kd) : List UInt8 := k.hash ++ (beN 1 k.ht ++ beN 4 k.sz)
def kdL (kind : Nat) (k : Kd) : List UInt8 := (if kind = 3 then hdL k else []) ++ tlL k
def ksL (kind : Nat) (l : List Kd) : List UInt8 := l.flatMap (kdL kind)
def cnL (c : Ck) : List UInt8 := beN 1 c.kind ++ (if ldB c.kind = true then beN 1 c.kids.length else [])
/-- A chunk's bytes. -/
def putL (c : Ck) : List UInt8 := cnL c ++ (ksL c.kind c.kids ++ byt c.data)

/-- A name, a hash, a child, children, as a reader that may have failed gives them. -/
def gn (s : List UInt8 × Bool) : List UInt8 × (List UInt8 × Bool) :=
  let r := gv (match s.1 with | [] => 1 | x :: _ => x.toNat + 1) s
  (r.1.tail, r.2)
def gh (s : List UInt8 × Bool) : List UInt8 × (List UInt8 × Bool) :=
  let r := gv 32 s
  (if r.1.length = 32 then r.1 else List.replicate 32 0, r.2)
def rdHd (kind : Nat) (s : List UInt8 × Bool) : (ByteArray × Bool) × (List UInt8 × Bool) :=
  if kind = 3 then ((⟨(gn (gv 1 s).2).1.toArray⟩, decide (numN (gv 1 s).1 = 1)), (gn (gv 1 s).2).2) else ((⟨#[]⟩, false), s)
def rdTl (s : List UInt8 × Bool) : (List UInt8 × Nat × Nat) × (List UInt8 × Bool) :=
  (((gh s).1, numN (gv 1 (gh s).2).1, numN (gv 4 (gv 1 (gh s).2).2).1), (gv 4 (gv 1 (gh s).2).2).2)
def rdKd' (kind : Nat) (s : List UInt8 × Bool) : Kd × (List UInt8 × Bool) :=
  let h := rdHd kind s
  let t := rdTl h.2
  (⟨h.1.1, h.1.2, t.1.1, t.1.2.1, t.1.2.2⟩, t.2)
def rdKs (kind : Nat) : Nat → List UInt8 × Bool → List Kd × (List UInt8 × Bool)
  | 0, s => ([], s)
  | n + 1, s => ((rdKs kind n s).1 ++ [(rdKd' kind (rdKs kind n s).2).1], (rdKd' kind (rdKs kind n s).2).2)
def rcKind (l : List UInt8) : Nat := numN (gv 1 (l, false)).1
def rcS (l : List UInt8) : List UInt8 × Bool := (gv 1 (l, false)).2
def rcN (l : List UInt8) : Nat := numN (gv 1 (rcS l)).1
def rcS2 (l : List UInt8) : List UInt8 × Bool := (gv 1 (rcS l)).2
/-- The chunk that bytes say, if they are one's. -/
def readC (l : List UInt8) : Ck :=
  if ldB (rcKind l) = true then ⟨rcKind l, ⟨#[]⟩, (rdKs (rcKind l) (rcN l) (rcS2 l)).1⟩
  else ⟨rcKind l, ⟨(gv (rcS l).1.length (rcS l)).1.toArray⟩, []⟩
/-- What Take answers. -/
def takeC (l : List UInt8) : Ck × Int :=
  if 340 < l.length then (ck0, 3) else if (mayB (readC l) && (l == putL (readC l))) = true then (readC l, 0) else (ck0, 3)

theorem num1_lt (s : List UInt8 × Bool) : numN (gv 1 s).1 < 256 := by
  have h1 := numN_lt (gv 1 s).1
  have h2 := gv_len 1 s
  have h3 : 256 ^ (gv 1 s).1.length ≤ 256 ^ 1 := Nat.pow_le_pow_right (by omega) h2
  omega
theorem num4_lt (s : List UInt8 × Bool) : numN (gv 4 s).1 < 4294967296 := by
  have h1 := numN_lt (gv 4 s).1
  have h2 := gv_len 4 s
  have h3 : 256 ^ (gv 4 s).1.length ≤ 256 ^ 4 := Nat.pow_le_pow_right (by omega) h2
  have h4 : 256 ^ 4 = 4294967296 := by decide
  omega
theorem gh_len (s : List UInt8 × Bool) : (gh s).1.length = 32 := by
  unfold gh
  dsimp only
  split
  · assumption
  · simp
theorem rdKd_ok (kind : Nat) (s : List UInt8 × Bool) : (rdKd' kind s).1.Ok := ⟨gh_len _, num1_lt _, num4_lt _⟩
theorem rdKs_ok (kind : Nat) : ∀ (n : Nat) (s : List UInt8 × Bool), ∀ k ∈ (rdKs kind n s).1, k.Ok
  | 0, _, k, hk => by cases hk
  | n + 1, s, k, hk => by
    rw [rdKs] at hk
    rcases List.mem_append.1 hk with hk | hk
    · exact rdKs_ok kind n s k hk
    · rw [List.mem_singleton] at hk
      rw [hk]
      exact rdKd_ok _ _
theorem rdKs_len (kind : Nat) : ∀ (n : Nat) (s : List UInt8 × Bool), (rdKs kind n s).1.length = n
  | 0, _ => rfl
  | n + 1, s => by simp [rdKs, rdKs_len kind n s]
theorem readC_ok (l : List UInt8) : (readC l).Ok := by
  unfold readC
  split
  · exact ⟨num1_lt _, rdKs_ok _ _ _⟩
  · exact ⟨num1_lt _, fun k hk => by cases hk⟩

theorem gn_app {s : ByteArray} {b : List UInt8} (h : s.size < 256) : gn (beN 1 s.size ++ (byt s ++ b), false) = (byt s, (b, false)) := by
  have e : beN 1 s.size = [UInt8.ofNat s.size] := by simp [beN]; apply UInt8.toNat_inj.1; simp
  have e2 : (UInt8.ofNat s.size).toNat = s.size := by simp; omega
  have hg : gv (s.size + 1) (UInt8.ofNat s.size :: (byt s ++ b), false) = (UInt8.ofNat s.size :: byt s, (b, false)) := by
    have := gv_app (n := s.size + 1) (a := UInt8.ofNat s.size :: byt s) (b := b) (by simp [byt_len])
    simpa using this
  rw [e]
  simp only [List.cons_append, List.nil_append, gn, e2, hg, List.tail_cons]
theorem gh_app {a b : List UInt8} (h : a.length = 32) : gh (a ++ b, false) = (a, (b, false)) := by
  simp only [gh, gv_app h, if_pos h]
/-- What a child of a kind says beside what is put of it. -/
def plainK (kind : Nat) (k : Kd) : Prop := if kind = 3 then k.name.size < 256 else k.name = ⟨#[]⟩ ∧ k.dir = false
theorem rdHd_app {kind : Nat} {k : Kd} {b : List UInt8} (h : plainK kind k) : rdHd kind ((if kind = 3 then hdL k else []) ++ b, false) = ((k.name, k.dir), (b, false)) := by
  unfold plainK at h
  unfold rdHd
  by_cases h3 : kind = 3
  · rw [if_pos h3] at h ⊢
    rw [if_pos h3]
    have e : hdL k ++ b = beN 1 (if k.dir = true then 1 else 0) ++ (beN 1 k.name.size ++ (byt k.name ++ b)) := by simp [hdL]
    rw [e, gv_app (beN_length 1 _), gn_app h, numN_beN 1 _ (by split <;> decide), mk_byt]
    rcases k.dir with _ | _ <;> rfl
  · rw [if_neg h3] at h ⊢
    rw [if_neg h3, h.1, h.2]
    rfl
theorem rdTl_app {k : Kd} {b : List UInt8} (h : k.Ok) : rdTl (tlL k ++ b, false) = ((k.hash, k.ht, k.sz), (b, false)) := by
  obtain ⟨h1, h2, h3⟩ := h
  have e : tlL k ++ b = k.hash ++ (beN 1 k.ht ++ (beN 4 k.sz ++ b)) := by simp [tlL]
  unfold rdTl
  rw [e, gh_app h1, gv_app (beN_length 1 _), gv_app (beN_length 4 _), numN_beN 1 _ (by omega), numN_beN 4 _ (by have h4 : 256 ^ 4 = 4294967296 := (by decide); omega)]
theorem rdKd_app {kind : Nat} {k : Kd} {b : List UInt8} (h : plainK kind k) (ho : k.Ok) : rdKd' kind (kdL kind k ++ b, false) = (k, (b, false)) := by
  have e : kdL kind k ++ b = (if kind = 3 then hdL k else []) ++ (tlL k ++ b) := by simp [kdL]
  unfold rdKd'
  dsimp only
  rw [e, rdHd_app h, rdTl_app ho]
theorem ksL_snoc (kind : Nat) (l : List Kd) (k : Kd) : ksL kind (l ++ [k]) = ksL kind l ++ kdL kind k := by simp [ksL]
theorem rdKs_app {kind : Nat} (n : Nat) : ∀ (p : List Kd) (b : List UInt8), p.length = n → (∀ k ∈ p, plainK kind k ∧ k.Ok) → rdKs kind n (ksL kind p ++ b, false) = (p, (b, false)) := by
  induction n with
  | zero => intro p b hp _; rw [List.eq_nil_of_length_eq_zero hp]; rfl
  | succ n ih =>
    intro p b hp hk
    rcases List.eq_nil_or_concat p with rfl | ⟨q, x, rfl⟩
    · cases hp
    rw [List.concat_eq_append] at hp hk ⊢
    obtain ⟨h1, h2⟩ := hk x (by simp)
    rw [ksL_snoc, List.append_assoc, rdKs, ih q _ (by simpa using hp) (fun y hy => hk y (by simp [hy])), rdKd_app h1 h2]
theorem entB_no {k : Kd} (h : entB k = false) : k.name = ⟨#[]⟩ ∧ k.dir = false := by
  unfold entB at h
  simpa using h
theorem rises_le : ∀ {p : ByteArray} {l : List Kd}, risesB p l = true → ∀ k ∈ l, k.name.size ≤ 16
  | _, [], _, k, hk => by cases hk
  | p, x :: r, h, k, hk => by
    simp only [risesB, rise1, Bool.and_eq_true, Bool.not_eq_true', Bool.or_eq_false_iff, decide_eq_false_iff_not] at h
    rcases List.mem_cons.1 hk with rfl | hk
    · omega
    · exact rises_le h.2 k hk
/-- What a chunk that may be is. -/
theorem may_cases {c : Ck} (h : mayB c = true) :
    (c.kind = 1 ∧ c.kids = [] ∧ c.data.size ≤ 240) ∨ (ldB c.kind = true ∧ (c.kind = 2 ∨ c.kind = 3) ∧ c.data = ⟨#[]⟩ ∧ c.kids.length ≤ 6 ∧ heightN c ≤ 255 ∧ (∀ k ∈ c.kids, plainK c.kind k ∧ k.name.size ≤ 16)) := by
  unfold mayB at h
  split at h
  · next h1 =>
    rw [Bool.and_eq_true, decide_eq_true_eq, decide_eq_true_eq] at h
    exact .inl ⟨h1, List.eq_nil_of_length_eq_zero h.1, h.2⟩
  · split at h
    · next h2 =>
      simp only [leadB, Bool.and_eq_true, decide_eq_true_eq, Bool.not_eq_true', List.any_eq_false] at h
      obtain ⟨⟨⟨⟨⟨h3, h4⟩, h5⟩, h6⟩, h7⟩, h8⟩ := h
      refine .inr ⟨by simp [ldB, h2], .inl h2, ?_, h4, h5, fun k hk => ?_⟩
      · apply ByteArray.ext; exact Array.eq_empty_of_size_eq_zero h3
      · have := h8 k hk
        have hn := entB_no (by simpa using this)
        unfold plainK
        rw [if_neg (by omega)]
        refine ⟨hn, ?_⟩
        rw [hn.1]
        decide
    · split at h
      · next h2 =>
        simp only [leadB, Bool.and_eq_true, decide_eq_true_eq] at h
        obtain ⟨⟨⟨h3, h4⟩, h5⟩, h6⟩ := h
        refine .inr ⟨by simp [ldB, h2], .inr h2, ?_, h4, h5, fun k hk => ?_⟩
        · apply ByteArray.ext; exact Array.eq_empty_of_size_eq_zero h3
        · have := rises_le h6 k hk
          unfold plainK
          rw [if_pos h2]
          exact ⟨by omega, this⟩
      · cases h
theorem kdL_len {kind : Nat} {k : Kd} (h : k.Ok) (hn : k.name.size ≤ 16) : (kdL kind k).length ≤ 55 := by
  have := h.1
  unfold kdL hdL tlL
  split <;> simp [beN_length, byt_len] <;> omega
theorem ksL_len {kind : Nat} : ∀ {l : List Kd}, (∀ k ∈ l, k.Ok ∧ k.name.size ≤ 16) → (ksL kind l).length ≤ 55 * l.length
  | [], _ => by simp [ksL]
  | k :: r, h => by
    have h1 := ksL_len (kind := kind) (l := r) fun x hx => h x (List.mem_cons_of_mem _ hx)
    have h2 := kdL_len (kind := kind) (h k List.mem_cons_self).1 (h k List.mem_cons_self).2
    simp only [ksL, List.flatMap_cons, List.length_append, List.length_cons] at h1 ⊢
    omega
theorem put_len {c : Ck} (h : mayB c = true) (ho : c.Ok) : (putL c).length ≤ 332 := by
  rcases may_cases h with ⟨h1, h2, h3⟩ | ⟨h1, _, h2, h3, _, h4⟩
  · have : ldB c.kind = false := by simp [ldB, h1]
    simp [putL, cnL, this, h2, ksL, beN_length, byt_len]
    omega
  · have := ksL_len (kind := c.kind) (l := c.kids) fun k hk => ⟨ho.2 k hk, (h4 k hk).2⟩
    have hd : c.data.size = 0 := by rw [h2]; rfl
    simp [putL, cnL, h1, beN_length, byt_len]
    omega
/-- A chunk's bytes are read as it. -/
theorem read_put {c : Ck} (h : mayB c = true) (ho : c.Ok) : readC (putL c) = c := by
  have e0 : putL c = beN 1 c.kind ++ ((if ldB c.kind = true then beN 1 c.kids.length else []) ++ (ksL c.kind c.kids ++ byt c.data)) := by simp [putL, cnL]
  have g1 : gv 1 (putL c, false) = (beN 1 c.kind, ((if ldB c.kind = true then beN 1 c.kids.length else []) ++ (ksL c.kind c.kids ++ byt c.data), false)) := by
    rw [e0]; exact gv_app (beN_length 1 _)
  have hk : rcKind (putL c) = c.kind := by unfold rcKind; rw [g1]; exact numN_beN 1 _ (by have := ho.1; omega)
  have hs : rcS (putL c) = ((if ldB c.kind = true then beN 1 c.kids.length else []) ++ (ksL c.kind c.kids ++ byt c.data), false) := by unfold rcS; rw [g1]
  rcases may_cases h with ⟨h1, h2, h3⟩ | ⟨h1, _, h2, h3, _, h4⟩
  · have hl : ldB c.kind = false := by simp [ldB, h1]
    rw [hl, h2] at hs
    simp only [Bool.false_eq_true, if_false, List.nil_append, ksL, List.flatMap_nil] at hs
    unfold readC
    rw [hk, hl, hs]
    simp only [Bool.false_eq_true, if_false]
    have := gv_app (n := (byt c.data).length) (a := byt c.data) (b := []) rfl
    rw [List.append_nil] at this
    rw [this, mk_byt]
    exact Ck.ext' rfl rfl h2.symm
  · rw [h1] at hs
    simp only [if_true] at hs
    have g2 : gv 1 (rcS (putL c)) = (beN 1 c.kids.length, (ksL c.kind c.kids ++ byt c.data, false)) := by rw [hs]; exact gv_app (beN_length 1 _)
    have hn : rcN (putL c) = c.kids.length := by unfold rcN; rw [g2]; exact numN_beN 1 _ (by omega)
    have hs2 : rcS2 (putL c) = (ksL c.kind c.kids ++ byt c.data, false) := by unfold rcS2; rw [g2]
    unfold readC
    rw [hk, h1, hn, hs2, if_pos rfl, rdKs_app _ _ _ rfl fun k hk => ⟨(h4 k hk).1, ho.2 k hk⟩]
    exact Ck.ext' rfl h2.symm rfl
theorem take_put {c : Ck} (h : mayB c = true) (ho : c.Ok) : takeC (putL c) = (c, 0) := by
  have hl := put_len h ho
  unfold takeC
  rw [if_neg (by omega), read_put h ho, h]
  simp
theorem put_inj {a b : Ck} (ha : mayB a = true) (hb : mayB b = true) (oa : a.Ok) (ob : b.Ok) (h : putL a = putL b) : a = b := by
  rw [← read_put ha oa, h, read_put hb ob]
theorem takeC_cases (l : List UInt8) : takeC l = (ck0, 3) ∨ ∃ c, takeC l = (c, 0) ∧ mayB c = true ∧ putL c = l ∧ c.Ok ∧ l.length ≤ 340 := by
  unfold takeC
  split
  · exact .inl rfl
  · next h0 =>
    split
    · next h =>
      rw [Bool.and_eq_true, beq_iff_eq] at h
      exact .inr ⟨_, rfl, h.1, h.2.symm, readC_ok l, by omega⟩
    · exact .inl rfl
theorem hiN_ge : ∀ (n : Nat) (l : List Kd), n ≤ hiN n l ∧ ∀ k ∈ l, k.ht ≤ hiN n l
  | n, [] => ⟨Nat.le_refl _, fun k hk => by cases hk⟩
  | n, x :: r => by
    obtain ⟨h1, h2⟩ := hiN_ge (max n x.ht) r
    refine ⟨by unfold hiN; omega, fun k hk => ?_⟩
    rcases List.mem_cons.1 hk with rfl | hk
    · unfold hiN; omega
    · exact h2 k hk
theorem hiN_snoc (n : Nat) (l : List Kd) (k : Kd) : hiN n (l ++ [k]) = max (hiN n l) k.ht := by
  induction l generalizing n with
  | nil => rfl
  | cons x r ih => exact ih _
theorem hiN_lt : ∀ (n : Nat) (l : List Kd), n < 256 → (∀ k ∈ l, k.ht < 256) → hiN n l < 256
  | n, [], h, _ => h
  | n, x :: r, h, hk => by
    have := hk x List.mem_cons_self
    exact hiN_lt (max n x.ht) r (by omega) fun k h => hk k (List.mem_cons_of_mem _ h)
theorem above {c : Ck} (h : mayB c = true) {k : Kd} (hk : k ∈ c.kids) : k.ht < heightN c := by
  rcases may_cases h with ⟨_, h2, _⟩ | ⟨h1, _⟩
  · rw [h2] at hk; cases hk
  · unfold heightN
    rw [if_pos h1]
    have := (hiN_ge 0 c.kids).2 k hk
    omega
end Go.Proofs.Ytoonihhjdmkflaa
