/- There and back, piece by piece: what was put of a thing is taken as itself; a packer and an opener beside each other. -/
import Derived.Test.YtapohcjohndedaaPuts
import Derived.Stop.BytesEq
namespace Go.Proofs.Ytapohcjohndedaa
open Go.RowKit

/-- What is put of things that all may be put. -/
def encs (l : List It) : List UInt8 := l.flatMap fun x => (enc1 x).getD []

theorem fold_err (l : List It) : ∀ st : List UInt8 × Int, st.2 ≠ 0 → (l.foldl put1 st).2 ≠ 0 := by
  induction l with
  | nil => intro st h; exact h
  | cons x l ih =>
    intro st h
    refine ih _ ?_
    unfold put1
    split
    · exact h
    · simp only [errS, if_neg h]
      exact h
theorem fold_ok (l : List It) : ∀ st : List UInt8 × Int, (l.foldl put1 st).2 = 0 → st.2 = 0 ∧ (∀ x ∈ l, ∃ b, enc1 x = some b) ∧ l.foldl put1 st = (st.1 ++ encs l, 0) := by
  induction l with
  | nil =>
    intro st h
    obtain ⟨a, e⟩ := st
    simp only [List.foldl_nil] at h
    subst h
    exact ⟨rfl, by simp, by simp [encs]⟩
  | cons x l ih =>
    intro st h
    obtain ⟨a, e⟩ := st
    obtain ⟨h1, h2, h3⟩ := ih _ h
    have he : e = 0 := by
      rcases Decidable.em (e = 0) with he | he
      · exact he
      · exact absurd h1 (by
          have := fold_err [x] (a, e) he
          exact this)
    subst he
    have hx : ∃ b, enc1 x = some b := by
      cases hb : enc1 x with
      | some b => exact ⟨b, rfl⟩
      | none => rw [put1, hb] at h1; cases h1
    obtain ⟨b, hb⟩ := hx
    refine ⟨rfl, fun y hy => ?_, ?_⟩
    · rcases List.mem_cons.1 hy with rfl | hy
      · exact ⟨b, hb⟩
      · exact h2 y hy
    · rw [List.foldl_cons, h3]
      rw [put1, hb]
      simp [putS, encs, hb]
theorem putAll_ok {l : List It} (h : (putAll l).2 = 0) : (∀ x ∈ l, ∃ b, enc1 x = some b) ∧ putAll l = (encs l, 0) := by
  obtain ⟨_, h2, h3⟩ := fold_ok l _ h
  exact ⟨h2, by unfold putAll; simpa using h3⟩
theorem encs_take (l : List It) (k : Nat) (h : k < l.length) : encs (l.take (k + 1)) = encs (l.take k) ++ (enc1 l[k]).getD [] := by
  rw [take_snoc l k h]
  simp only [encs, List.flatMap_append, List.flatMap_cons, List.flatMap_nil, List.append_nil]
theorem encs_drop (l : List It) (k : Nat) (h : k < l.length) : encs (l.drop k) = (enc1 l[k]).getD [] ++ encs (l.drop (k + 1)) := by
  rw [List.drop_eq_getElem_cons h]
  simp only [encs, List.flatMap_cons]

/-- Bytes that were there stay, where newer blocks alone are turned. -/
theorem Rd.kp_new {S : Nat → Prop} {w w' : World} {A : Option Addr} {l : List UInt8} (h : Rd w A l) (hk : Kp S w w') (hs : ∀ k, S k → w.heap.size ≤ k) : Rd w' A l :=
  h.keep fun a i _ _ hc => by
    have hlt := World.block_lt_of_cell? w ⟨a.block, i, none⟩ hc
    exact hk.cell (p := ⟨a.block, i, none⟩) hlt (fun e => Nat.lt_irrefl _ (Nat.lt_of_lt_of_le hlt (hs _ e)))
theorem text_back (s : ByteArray) : (⟨(tb s).toArray⟩ : ByteArray) = s := by
  apply ByteArray.ext
  simp

section
variable {G : Nat → Prop} {w : World} {b : Nat} {rest : List UInt8}

theorem otake_put (wd : Int) (n : Nat) (hf : fitB wd n = true) (h : Opn G w b (beN wd.toNat n ++ rest) none) :
    Calls Try.prog 16 #[.pointer (some ⟨b, 0, none⟩), .int .i64 wd] w fun e w' => e = .returned (.int .u64 n) ∧ Opn G w' b rest none ∧ Kp (fun k => k = b) w w' := by
  simp only [fitB, Bool.and_eq_true, decide_eq_true_eq] at hf
  have hm : ((wd.toNat : Nat) : Int) = wd := by rcases wdB_cases hf.1 with rfl | rfl | rfl | rfl <;> rfl
  have hl := beN_length wd.toNat n
  have := take_fine h wd.toNat (by rw [hm]; exact hf.1) (by rw [List.length_append]; omega)
  rw [hm, List.take_append_of_le_length (by omega), List.drop_append_of_le_length (by omega), List.take_of_length_le (by omega), List.drop_eq_nil_of_le (by omega), numN_beN _ _ hf.2] at this
  exact this
theorem ohash_put (s : List UInt8) (hs : s.length = 32) (h : Opn G w b (s ++ rest) none) :
    Calls Try.prog 17 #[.pointer (some ⟨b, 0, none⟩)] w fun e w' => e = .returned (.agg (bcs s).toArray) ∧ Opn G w' b rest none ∧ Kp (fun k => k = b) w w' := by
  have := ohash_fine h (by rw [List.length_append]; omega)
  rw [List.take_append_of_le_length (by omega), List.drop_append_of_le_length (by omega), List.take_of_length_le (by omega), List.drop_eq_nil_of_le (by omega)] at this
  exact this
theorem otext_put (s : ByteArray) (h : Opn G w b (tb s ++ rest) none) :
    Calls Try.prog 18 #[.pointer (some ⟨b, 0, none⟩), .int .i64 s.size] w fun e w' => e = .returned (.string s) ∧ Opn G w' b rest none ∧ Kp (fun k => k = b) w w' := by
  have e : (tb s).length = s.size := Array.length_toList
  have := otext_fine h s.size (by rw [List.length_append]; omega)
  rw [List.take_append_of_le_length (by omega), List.drop_append_of_le_length (by omega), List.take_of_length_le (by omega), List.drop_eq_nil_of_le (by omega), text_back] at this
  exact this
theorem oname_put (s : ByteArray) (hs : s.size < 256) (h : Opn G w b (UInt8.ofNat s.size :: tb s ++ rest) none) :
    Calls Try.prog 19 #[.pointer (some ⟨b, 0, none⟩)] w fun e w' => e = .returned (.string s) ∧ Opn G w' b rest none ∧ Kp (fun k => k = b) w w' := by
  have e : (tb s).length = s.size := Array.length_toList
  have eu : (UInt8.ofNat s.size).toNat = s.size := by simp; omega
  have := oname_fine (x := UInt8.ofNat s.size) (l := tb s ++ rest) h (by rw [eu, List.length_append]; omega)
  rw [eu, List.take_append_of_le_length (by omega), List.drop_append_of_le_length (by omega), List.take_of_length_le (by omega), List.drop_eq_nil_of_le (by omega), text_back] at this
  exact this
end

section
variable {F F' : Nat → Prop} {w w' : World} {p : Value} {l : List UInt8} {err : Int}
theorem Pk.mono (h : Pk F w p l err) (hf : ∀ k, F k → F' k) : Pk F' w p l err := by
  obtain ⟨h0, h | ⟨b, e, hb, v, hx, ho, hv⟩⟩ := h
  · exact ⟨h0, .inl h⟩
  · exact ⟨h0, .inr ⟨b, e, hf b hb, v, hx, ho, fun k hk => hf k (hv k hk)⟩⟩
/-- A block of another kind is none of the packer's. -/
theorem Pk.but {g : Nat} {t : TypeId} {cs : Array Value} (h : Pk F w p l err) (hg : Box w g t cs) (h1 : 54 ≠ t) (h2 : 5 ≠ t) : Pk (fun k => F k ∧ k ≠ g) w p l err := by
  obtain ⟨h0, h | ⟨b, e, hb, v, hx, ho, hv⟩⟩ := h
  · exact ⟨h0, .inl h⟩
  · exact ⟨h0, .inr ⟨b, e, ⟨hb, hx.type_ne hg h1⟩, v, hx, ho, fun k hk => ⟨hv k hk, fun e => hg.own_ne ho h2 (by rw [hk, e])⟩⟩⟩
end

theorem size_u8 : ∀ w, (sizeOf 5).run Try.prog w = .ok 1 w := by
  intro w
  have := byte_size
  cases hq : Try.prog.info? 5 with
  | none => simp [hq] at this
  | some i =>
    simp [hq] at this
    simp [sizeOf, typeInfo, hq, this]
theorem hash_eq (a c : List UInt8) (ha : a.length = 32) (hc : c.length = 32) (w : World) : (Op.equalIn 10000 31 (.agg (bcs a).toArray) (.agg (bcs c).toArray)).run Try.prog w = .ok (a == c) w :=
  run_equalIn_bytes w 9998 31 5 32 Try.underlying31 Try.underlying5 size_u8 a c ha hc

end Go.Proofs.Ytapohcjohndedaa
