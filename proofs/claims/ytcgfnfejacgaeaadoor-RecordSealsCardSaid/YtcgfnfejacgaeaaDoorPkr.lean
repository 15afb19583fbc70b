/- What a packer's calls do: its state is the bytes that were put and its error. -/
import Derived.Test.YtcgfnfejacgaeaaDoorApp
import Derived.Test.YtcgfnfejacgaeaaDoorTell
import Derived.Lib.LazyBuf
namespace Go.Proofs.YtcgfnfejacgaeaaDoor
open Go.RowKit

theorem info_byte : (Tryd.prog.info? 5).map (fun i => (i.zero, i.size, i.bytes)) = some (some (.int .u8 0), 1, 1) := by kernel_rfl

/-- A slice of the program's own that reads as these bytes, in blocks that are not older than B. -/
def Sl (w : World) (B : Nat) (v : Value) (l : List UInt8) : Prop :=
  ∃ A c, v = .slice A l.length c ∧ l.length ≤ c ∧ c ≤ maxLen ∧ Rd w A l ∧ (∀ a, A = some a → B ≤ a.block)

theorem sl_of_own {w : World} {B e : Nat} {v : Value} {l : List UInt8} (h : w.ownsRow 0 e 1 v ([] ++ l).length (bcs ([] ++ l))) (hB : ∀ k, v.ownBlock = some k → B ≤ k) : Sl w B v l := by
  simp only [List.nil_append] at h
  have h' := h
  rcases h.2 with ⟨rfl, h0⟩ | ⟨g, cap, cur, rfl, _, _, hcap, hm, _⟩
  · have hl : l = [] := List.eq_nil_of_length_eq_zero h0
    subst hl
    exact ⟨none, 0, rfl, Nat.le_refl _, by simp [maxLen], Rd.nil _ _, fun _ h => by cases h⟩
  · exact ⟨_, cap, rfl, hcap, hm, Rd.of_own h', fun a ha => by cases ha; exact hB g rfl⟩

theorem own_shape {w : World} {e n : Nat} {v : Value} {xs : List Value} (h : w.ownsRow 0 e 1 v n xs) : ∃ A c, v = .slice A n c := by
  rcases h.2 with ⟨rfl, rfl⟩ | ⟨g, cap, _, rfl, _⟩
  · exact ⟨_, _, rfl⟩
  · exact ⟨_, _, rfl⟩

set_option maxHeartbeats 400000 in
theorem clone_any (A : Option Addr) (c : Nat) (l : List UInt8) (w : World) (h : Rd w A l) (hlen : l.length ≤ 140737488355328) :
    Calls Tryd.prog 33 #[.slice A l.length c] w fun e w' => ∃ v, e = .returned v ∧ Sl w' w.heap.size v l ∧ Kp (fun _ => False) w w' := by
  obtain ⟨i0, hi, hz0, hz1, hz2⟩ := info_parts info_byte
  have hnil := Lib.run_eql_slice_nil (P := Tryd.prog) w 23 5 A l.length c 0 0 Tryd.underlying23
  rcases A with _ | a
  · have hl : l = [] := by
      rcases h with h | ⟨b, o, e, _⟩
      · exact h
      · cases e
    subst hl
    simp only [List.length_nil, Option.isNone_none] at hnil
    show Calls Tryd.prog 33 #[.slice none 0 c] w _
    go_enter Tryd.func33, Tryd.ntmps33
    go_wp2_with fail
    go_ret
    exact ⟨_, rfl, ⟨none, 0, rfl, Nat.le_refl _, by simp [maxLen], Rd.nil _ _, fun _ h => by cases h⟩, Kp.refl _ _⟩
  · simp only [Option.isNone_some] at hnil
    have H := Lib.hid h
    clear h
    go_enter Tryd.func33, Tryd.ntmps33
    go_wp2_with (at_builtin; refine wpList_put _ rfl (.tmp 5) (.tmp 6) 23 rfl 5 i0 Tryd.underlying23 hi hz0 hz1 hz2 _ rfl [] l (World.ownsRow_made w #[] 0 (Nat.zero_le _) (by simp [maxLen]) rfl) (some a) l.length c rfl rfl (H.out.alloc _) (by simpa using hlen) ?_)
    intro v' w1 hown hg hat
    have Hown := Lib.hid hown
    have Hg := Lib.hid hg
    have Hat := Lib.hid hat
    clear hown hg hat
    go_wp2_with fail
    go_ret
    have hk : Kp (fun k => w.heap.size ≤ k) w w1 := ((Kp.refl _ w).alloc (.cells #[] 5)).grown Hg.out (by
      intro k hk
      simp [Value.ownBlock] at hk
      exact .inl (by omega))
    refine ⟨v', rfl, sl_of_own Hown.out ?_, hk.fresh _⟩
    intro k hk
    rcases Hat.out with e | e <;> rw [e] at hk <;> simp [Value.ownBlock] at hk <;> omega

/-- The packer in block b: the bytes l were put, err its error; all its blocks are of F. -/
def Pkr (F : Nat → Prop) (w : World) (b : Nat) (l : List UInt8) (err : Int) : Prop :=
  F b ∧ ∃ v, Box w b 86 #[v, .int .i64 err] ∧ w.ownsRow 0 5 1 v l.length (bcs l) ∧ ∀ k, v.ownBlock = some k → F k

theorem own_kp {S : Nat → Prop} {w w' : World} {e : TypeId} {v : Value} {n : Nat} {xs : List Value} (h : w.ownsRow 0 e 1 v n xs) (hk : Kp S w w') (hn : ∀ k, v.ownBlock = some k → ¬ S k) : w'.ownsRow 0 e 1 v n xs := by
  refine ⟨h.1, ?_⟩
  rcases h.2 with h2 | ⟨g, cap, cur, rfl, hb, hg, r⟩
  · exact .inl h2
  · exact .inr ⟨g, cap, cur, rfl, hb, (hk.block g (lt_of_block hg) (hn g rfl)).trans hg, r⟩
theorem Pkr.kp {F S : Nat → Prop} {w w' : World} {b : Nat} {l : List UInt8} {err : Int} (h : Pkr F w b l err) (hk : Kp S w w') (hs : ∀ k, F k → ¬ S k) : Pkr F w' b l err := by
  obtain ⟨hb, v, hx, ho, hv⟩ := h
  exact ⟨hb, v, hx.kp hk (hs b hb), own_kp ho hk fun k e => hs k (hv k e), hv⟩
/-- One block of another kind may be turned. -/
theorem Pkr.kp_box {F : Nat → Prop} {w w' : World} {b g : Nat} {l : List UInt8} {err : Int} {t : TypeId} {cs : Array Value} (h : Pkr F w b l err) (hk : Kp (fun k => k = g) w w') (hg : Box w g t cs) (h1 : 86 ≠ t) (h2 : 5 ≠ t) : Pkr F w' b l err := by
  obtain ⟨hb, v, hx, ho, hv⟩ := h
  exact ⟨hb, v, hx.kp hk (hx.type_ne hg h1), own_kp ho hk fun k e e' => hg.own_ne ho h2 (by rw [e, e']), hv⟩

set_option maxHeartbeats 400000 in
theorem new_any (F : Nat → Prop) (w : World) (hF : F w.heap.size) :
    Calls Tryd.prog 24 #[] w fun e w' => e = .returned (.pointer (some ⟨w.heap.size, 0, none⟩)) ∧ Pkr F w' w.heap.size [] 0 ∧ Kp (fun _ => False) w w' := by
  go_enter Tryd.func24, Tryd.ntmps24
  go_wp2_with fail
  go_ret
  exact ⟨rfl, ⟨hF, .slice none 0 0, Box.new _ _ _, World.ownsRow_nil _ _ _ _, fun k h => by cases h⟩, (Kp.refl _ _).alloc _⟩

section
variable {F : Nat → Prop} {w : World} {b : Nat} {l : List UInt8}

set_option maxHeartbeats 400000 in
theorem add_fine (h : Pkr F w b l 0) (hF : ∀ k, w.heap.size ≤ k → F k) (s : List UInt8) (A : Option Addr) (n c : Nat) (hn : s.length = n) (hr : Rd w A s) (hlen : l.length + s.length ≤ 140737488355328) :
    Calls Tryd.prog 39 #[.pointer (some ⟨b, 0, none⟩), .slice A n c] w fun e w' => e = .returned (.pointer (some ⟨b, 0, none⟩)) ∧ Pkr F w' b (l ++ s) 0 ∧ Kp F w w' := by
  obtain ⟨i0, hi, hz0, hz1, hz2⟩ := info_parts info_byte
  obtain ⟨hb, v, hx, ho, hv⟩ := h
  have c0 := hx.cell 0
  have c1 := hx.cell 1
  simp at c0 c1
  have Hx := Lib.hid hx
  have Ho := Lib.hid ho
  have Hr := Lib.hid hr
  have Hn := Lib.hid hn
  clear hx ho hr hn
  go_enter Tryd.func39, Tryd.ntmps39
  go_wp2_with (at_builtin; refine wpList_put _ rfl (.tmp 18) (.tmp 19) 23 rfl 5 i0 Tryd.underlying23 hi hz0 hz1 hz2 v rfl l s Ho.out A n c rfl Hn.out Hr.out hlen ?_)
  intro v' w1 hown hg hat
  have hx1 := Hx.out.grown hg (fun e => Hx.out.own_ne Ho.out (by decide) e.symm)
  have c0' := hx1.cell 0
  have f0' := hx1.free 0
  simp at c0'
  have Hx1 := Lib.hid hx1
  obtain ⟨A', c', rfl⟩ := own_shape hown
  have Hown := Lib.hid hown
  have Hg := Lib.hid hg
  have Hat := Lib.hid hat
  clear hown hg hat hx1 c0 c1
  go_wp2_with fail
  go_ret
  have hf : ∀ k, (Value.slice A' (l.length + s.length) c').ownBlock = some k → F k := by
    intro k hk
    rcases Hat.out with e | e <;> rw [e] at hk
    · exact hv k hk
    · cases hk
      exact hF _ (Nat.le_refl _)
  have hx2 := Hx1.out.put 0 (.slice A' (l.length + s.length) c')
  simp at hx2
  have hne : (Value.slice A' (l.length + s.length) c').ownBlock ≠ some b := Hx1.out.own_ne Hown.out (by decide)
  refine ⟨rfl, ⟨hb, .slice A' (l.length + s.length) c', hx2, by rw [List.length_append]; exact ownsRow_setCell_other Hown.out hne _, hf⟩, ?_⟩
  exact ((Kp.refl F w).grown Hg.out fun k hk => .inr (hv k hk)).setCell (.inr hb) _

set_option maxHeartbeats 400000 in
theorem add_failed {err : Int} (h : Pkr F w b l err) (he : err ≠ 0) (v2 : Value) :
    Calls Tryd.prog 39 #[.pointer (some ⟨b, 0, none⟩), v2] w fun e w' => e = .returned (.pointer (some ⟨b, 0, none⟩)) ∧ w = w' := by
  obtain ⟨hb, v, hx, ho, hv⟩ := h
  have c1 := hx.cell 1
  simp at c1
  have hne : (err == 0) = false := by simpa using he
  clear hx ho he
  go_enter Tryd.func39, Tryd.ntmps39
  go_wp2_with fail
  go_ret
  exact ⟨rfl, rfl⟩

set_option maxHeartbeats 400000 in
theorem add_nil (v2 : Value) (w : World) :
    Calls Tryd.prog 39 #[.pointer none, v2] w fun e w' => e = .returned (.pointer none) ∧ w = w' := by
  go_enter Tryd.func39, Tryd.ntmps39
  go_wp2_with fail
  go_ret
  exact ⟨rfl, rfl⟩

set_option maxHeartbeats 400000 in
theorem fail_fine (h : Pkr F w b l 0) (e1 : Int) :
    Calls Tryd.prog 40 #[.pointer (some ⟨b, 0, none⟩), .int .i64 e1] w fun e w' => e = .returned (.pointer (some ⟨b, 0, none⟩)) ∧ Pkr F w' b [] e1 ∧ Kp F w w' := by
  obtain ⟨hb, v, hx, ho, hv⟩ := h
  have c1 := hx.cell 1
  have c0 := hx.cell 0
  have f1 := hx.free 1
  have f0 := hx.free 0
  simp at c1 c0
  have Hx := Lib.hid hx
  clear hx ho
  go_enter Tryd.func40, Tryd.ntmps40
  go_wp2_with fail
  go_ret
  have hx2 := (Hx.out.put 0 (.slice none 0 0)).put 1 (.int .i64 e1)
  simp at hx2
  refine ⟨rfl, ⟨hb, _, hx2, World.ownsRow_nil _ _ _ _, fun k h => by cases h⟩, ?_⟩
  exact ((Kp.refl F w).setCell (.inr hb) _).setCell (.inr hb) _

set_option maxHeartbeats 400000 in
theorem fail_failed {err : Int} (h : Pkr F w b l err) (he : err ≠ 0) (e1 : Int) :
    Calls Tryd.prog 40 #[.pointer (some ⟨b, 0, none⟩), .int .i64 e1] w fun e w' => e = .returned (.pointer (some ⟨b, 0, none⟩)) ∧ w = w' := by
  obtain ⟨hb, v, hx, ho, hv⟩ := h
  have c1 := hx.cell 1
  simp at c1
  have hne : (err == 0) = false := by simpa using he
  clear hx ho he
  go_enter Tryd.func40, Tryd.ntmps40
  go_wp2_with fail
  go_ret
  exact ⟨rfl, rfl⟩

set_option maxHeartbeats 400000 in
theorem fail_nil (e1 : Int) (w : World) :
    Calls Tryd.prog 40 #[.pointer none, .int .i64 e1] w fun e w' => e = .returned (.pointer none) ∧ w = w' := by
  go_enter Tryd.func40, Tryd.ntmps40
  go_wp2_with fail
  go_ret
  exact ⟨rfl, rfl⟩

end

end Go.Proofs.YtcgfnfejacgaeaaDoor
