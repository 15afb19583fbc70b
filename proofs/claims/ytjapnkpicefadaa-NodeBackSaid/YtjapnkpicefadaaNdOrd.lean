/- Keys that rise: where each of them is. Plain mathematics, no program. -/
import Derived.Test.YtjapnkpicefadaaNdRef
import Derived.Test.YtjapnkpicefadaaNdTake
import Derived.Test.YtjapnkpicefadaaNdFind
namespace Go.Proofs.Ytjapnkpicefadaa
open Go.RowKit

theorem bl_irr : ∀ x : List UInt8, Go.Op.bytesLess x x = false
  | [] => rfl
  | a :: x => by
    have h1 : decide (a < a) = false := by rw [decide_eq_false_iff_not, UInt8.lt_iff_toNat_lt]; omega
    simp only [Go.Op.bytesLess, h1, bl_irr x, Bool.and_false, Bool.or_false]
theorem bl_cons {a b : UInt8} {x y : List UInt8} : Go.Op.bytesLess (a :: x) (b :: y) = true ↔ a.toNat < b.toNat ∨ (a = b ∧ Go.Op.bytesLess x y = true) := by
  simp only [Go.Op.bytesLess, Bool.or_eq_true, Bool.and_eq_true, decide_eq_true_eq, beq_iff_eq, UInt8.lt_iff_toNat_lt]
theorem bl_trans : ∀ x y z : List UInt8, Go.Op.bytesLess x y = true → Go.Op.bytesLess y z = true → Go.Op.bytesLess x z = true
  | [], [], _, h, _ => by cases h
  | _ :: _, [], _, h, _ => by cases h
  | _, _ :: _, [], _, h => by cases h
  | [], _ :: _, _ :: _, _, _ => rfl
  | a :: x, b :: y, c :: z, h, g => by
    rw [bl_cons] at h g ⊢
    rcases h with h | ⟨rfl, h⟩
    · rcases g with g | ⟨rfl, g⟩
      · exact .inl (by omega)
      · exact .inl h
    · rcases g with g | ⟨rfl, g⟩
      · exact .inl g
      · exact .inr ⟨rfl, bl_trans x y z h g⟩
theorem bl_tot : ∀ x y : List UInt8, Go.Op.bytesLess x y = false → (Go.Op.bytesLess y x || (y == x)) = !false
  | [], [], _ => rfl
  | [], _ :: _, h => by cases h
  | _ :: _, [], _ => rfl
  | a :: x, b :: y, h => by
    have hn : ¬ (a.toNat < b.toNat ∨ (a = b ∧ Go.Op.bytesLess x y = true)) := fun e => by rw [bl_cons.2 e] at h; cases h
    rcases Nat.lt_or_ge b.toNat a.toNat with g | g
    · rw [bl_cons.2 (.inl g)]
      rfl
    · have e : a.toNat = b.toNat := by omega
      obtain rfl : a = b := UInt8.toNat_inj.1 e
      have hx : Go.Op.bytesLess x y = false := by
        rcases hq : Go.Op.bytesLess x y with _ | _
        · rfl
        · exact absurd (.inr ⟨rfl, hq⟩) hn
      have ih := bl_tot x y hx
      rw [Bool.not_false, Bool.or_eq_true, beq_iff_eq] at ih ⊢
      rcases ih with ih | rfl
      · exact .inl (bl_cons.2 (.inr ⟨rfl, ih⟩))
      · exact .inr rfl
theorem bls_irr (a : ByteArray) : bls a a = false := bl_irr _
theorem bls_trans {a b c : ByteArray} (h : bls a b = true) (g : bls b c = true) : bls a c = true := bl_trans _ _ _ h g
theorem bls_asym {a b : ByteArray} (h : bls a b = true) : bls b a = false := by
  rcases hb : bls b a with _ | _
  · rfl
  · have := bls_trans h hb
    rw [bls_irr] at this
    cases this
theorem ble_nb (a b : ByteArray) : ble b a = !bls a b := by
  unfold ble bls
  generalize a.toList = x
  generalize b.toList = y
  rcases h1 : Go.Op.bytesLess x y with _ | _
  · exact bl_tot x y h1
  · rcases h2 : Go.Op.bytesLess y x with _ | _
    · have : (y == x) = false := by
        rw [beq_eq_false_iff_ne]
        rintro rfl
        rw [bl_irr] at h1
        cases h1
      rw [this]
      rfl
    · have := bl_trans x y x h1 h2
      rw [bl_irr] at this
      cases this
theorem ky_bls {kw : Int} {p x : ByteArray} (h : kyB kw p x = true) : bls p x = true := by
  unfold kyB at h
  rw [ble_nb, Bool.not_not, Bool.and_eq_true] at h
  exact h.1
theorem keys_above {kw : Int} : ∀ {p : ByteArray} {l : List ByteArray}, keysB kw p l = true → ∀ x ∈ l, bls p x = true
  | _, [], _, x, hx => by cases hx
  | p, k :: r, h, x, hx => by
    rw [keysB, Bool.and_eq_true] at h
    rcases List.mem_cons.1 hx with rfl | hx
    · exact ky_bls h.1
    · exact bls_trans (ky_bls h.1) (keys_above h.2 x hx)
theorem less_at {kw : Int} : ∀ {p : ByteArray} {l : List ByteArray} {i : Nat} {x : ByteArray}, keysB kw p l = true → l[i]? = some x → lessN x l = i ∧ moreN x l = i + 1
  | _, [], _, _, _, h => by cases h
  | p, k :: r, i, x, h, hx => by
    rw [keysB, Bool.and_eq_true] at h
    have ha := keys_above h.2
    rcases i with _ | i
    · obtain rfl : k = x := by simpa using hx
      constructor
      · unfold lessN
        rw [List.countP_cons, bls_irr]
        have : r.countP (fun y => bls y k) = 0 := List.countP_eq_zero.2 fun y hy => by rw [bls_asym (ha y hy)]; exact Bool.false_ne_true
        simp [this]
      · unfold moreN
        rw [List.countP_cons]
        have : r.countP (fun y => ble y k) = 0 := List.countP_eq_zero.2 fun y hy => by rw [ble_nb, ha y hy]; exact Bool.false_ne_true
        rw [this, ble_nb, bls_irr]
        rfl
    · have hx' : r[i]? = some x := by simpa using hx
      obtain ⟨h1, h2⟩ := less_at h.2 hx'
      have hb := ha x (List.mem_of_getElem? hx')
      constructor
      · unfold lessN at h1 ⊢
        rw [List.countP_cons, hb, h1]
        rfl
      · unfold moreN at h2 ⊢
        rw [List.countP_cons, ble_nb, bls_asym hb, h2]
        rfl
theorem is_at {kw : Int} {p : ByteArray} {l : List ByteArray} {i : Nat} {x : ByteArray} (h : keysB kw p l = true) (hx : l[i]? = some x) : isB x l = true := by
  unfold isB
  rw [(less_at h hx).1, hx]
  simp
theorem okB_ky {kw vw : Int} {n : Nd} (h : okB kw vw n = true) : keysB kw ⟨#[]⟩ n.keys = true := by
  rcases hl : n.leaf with _ | _
  · exact (okB_inner h hl).2.2.2.2.2.2
  · exact (okB_leaf h hl).2.2.2.2.2
theorem okB_sh {kw vw : Int} {n : Nd} (h : okB kw vw n = true) : shB kw vw = true := by
  unfold okB at h
  rw [Bool.and_eq_true] at h
  exact h.1
/-- A node's page is taken as the node. -/
theorem take_page {kw vw : Int} {n : Nd} (h : okB kw vw n = true) : takeS kw vw (pageL n) = (n, 0) := by
  have hs := okB_sh h
  obtain ⟨h1, h2, h3, h4⟩ := shB_iff.1 hs
  obtain ⟨a, rfl⟩ : ∃ a : Nat, kw = a := ⟨kw.toNat, by omega⟩
  obtain ⟨b, rfl⟩ : ∃ b : Nat, vw = b := ⟨vw.toNat, by omega⟩
  unfold takeS
  rw [hs, if_neg (by simp), if_neg (by rw [page_len h]; simp), Int.toNat_natCast, Int.toNat_natCast, read_page h, h]
  simp
/-- What Take answers, in three cases. -/
theorem takeS_cases (kw vw : Int) (l : List UInt8) : (shB kw vw = false ∧ takeS kw vw l = (nd0, 2)) ∨ (shB kw vw = true ∧ takeS kw vw l = (nd0, 3)) ∨ ∃ m, shB kw vw = true ∧ takeS kw vw l = (m, 0) ∧ okB kw vw m = true ∧ pageL m = l := by
  unfold takeS
  rcases hs : shB kw vw with _ | _
  · exact .inl ⟨rfl, by simp⟩
  · right
    rw [if_neg (by simp)]
    by_cases hl : l.length ≠ 512
    · exact .inl ⟨rfl, by rw [if_pos hl]⟩
    · rw [if_neg hl]
      rcases ht : (okB kw vw (readN kw.toNat vw.toNat l) && (l == pageL (readN kw.toNat vw.toNat l))) with _ | _
      · exact .inl ⟨rfl, by simp⟩
      · rw [Bool.and_eq_true] at ht
        exact .inr ⟨_, rfl, by simp, ht.1, (by simpa using ht.2 : l = _).symm⟩
end Go.Proofs.Ytjapnkpicefadaa
