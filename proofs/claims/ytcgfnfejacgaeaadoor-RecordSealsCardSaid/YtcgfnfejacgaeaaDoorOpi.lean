/- An opener in whatever state, apart from other blocks. No condition. -/
import Derived.Test.YtcgfnfejacgaeaaDoorNdMath
import Derived.Test.YtcgfnfejacgaeaaDoorReadH
import Derived.Test.YtcgfnfejacgaeaaDoorOCalls
import Derived.Test.YtcgfnfejacgaeaaDoorPkB
namespace Go.Proofs.YtcgfnfejacgaeaaDoor
open Go.RowKit

def flS : Bool → Option Int
  | true => some 3
  | false => none
/-- The opener in block b is in the state s; its blocks are not older than B, and none of X. -/
def Oi (B : Nat) (X : Nat → Prop) (w : World) (b : Nat) (s : List UInt8 × Bool) : Prop := ∃ G : Nat → Prop, Opn G w b s.1 (flS s.2) ∧ ∀ k, G k → B ≤ k ∧ k < w.heap.size ∧ ¬ X k
section
variable {B b : Nat} {X X' S : Nat → Prop} {w w' : World} {s : List UInt8 × Bool}
theorem Oi.step (h : Oi B X w b s) (hk : Kp S w w') (hS : ∀ k, S k → X k ∨ w.heap.size ≤ k) (hX : ∀ k, X' k → X k ∨ w.heap.size ≤ k) : Oi B X' w' b s := by
  obtain ⟨G, ho, hg⟩ := h
  refine ⟨G, ho.kp hk fun k g e => ?_, fun k g => ?_⟩
  · obtain ⟨_, h2, h3⟩ := hg k g
    rcases hS k e with h | h
    · exact h3 h
    · omega
  · obtain ⟨h1, h2, h3⟩ := hg k g
    refine ⟨h1, Nat.lt_of_lt_of_le h2 hk.size, fun e => ?_⟩
    rcases hX k e with h | h
    · exact h3 h
    · omega
theorem Oi.nb (h : Oi B X w b s) : ¬ X b ∧ B ≤ b ∧ b < w.heap.size := by
  obtain ⟨G, ho, hg⟩ := h
  have := hg b ho.1
  exact ⟨this.2.2, this.1, this.2.1⟩
theorem Oi.grow (h : Oi B X w b s) (hX : ∀ k, X k → k < w.heap.size) (hB : B ≤ w.heap.size) : ∃ G : Nat → Prop, Opn G w b s.1 (flS s.2) ∧ G w.heap.size ∧ ∀ k, G k → B ≤ k ∧ ¬ X k := by
  obtain ⟨G, ho, hg⟩ := h
  refine ⟨fun k => G k ∨ w.heap.size ≤ k, ho.mono fun k g => .inl g, .inr (Nat.le_refl _), fun k g => ?_⟩
  rcases g with g | g
  · exact ⟨(hg k g).1, (hg k g).2.2⟩
  · exact ⟨Nat.le_trans hB g, fun e => by have := hX k e; omega⟩
theorem Oi.back {G : Nat → Prop} (ho : Opn G w' b s.1 (flS s.2)) (hg : ∀ k, G k → B ≤ k ∧ ¬ X k) : Oi B X w' b s :=
  ⟨_, ho.old, fun k g => ⟨(hg k g.1).1, g.2, (hg k g.1).2⟩⟩
end

set_option maxHeartbeats 400000 in
theorem take_short {G : Nat → Prop} {w : World} {b : Nat} {l : List UInt8} (h : Opn G w b l none) (hG : G w.heap.size) (n : Nat) (hw : wdB n = true) (hn : l.length < n) :
    Calls Tryd.prog 20 #[.pointer (some ⟨b, 0, none⟩), .int .i64 n] w fun e w' => e = .returned (.int .u64 0) ∧ Opn G w' b l (some 3) ∧ Kp (fun k => k = b) w w' := by
  have H := Lib.hid h
  have HG := Lib.hid hG
  have HN := Lib.hid hn
  clear h hG hn
  go_enter Tryd.func20, Tryd.ntmps20
  go_wp2_with fail
  refine (isWidth_any _ _).mono ?_
  rintro e w1 ⟨rfl, rfl⟩
  go_wp2_with fail
  refine (read_num_short H.out HG.out n (.inr (by have := HN.out; omega))).mono ?_
  rintro e w1 ⟨rfl, ho, hk⟩
  have Ho := Lib.hid ho
  have Hk := Lib.hid hk
  clear ho hk
  go_wp2_with fail
  go_ret
  exact ⟨rfl, Ho.out, Hk.out⟩
set_option maxHeartbeats 400000 in
theorem take_failed {G : Nat → Prop} {w : World} {b : Nat} {l : List UInt8} (h : Opn G w b l (some 3)) (n : Nat) (hw : wdB n = true) :
    Calls Tryd.prog 20 #[.pointer (some ⟨b, 0, none⟩), .int .i64 n] w fun e w' => e = .returned (.int .u64 0) ∧ Opn G w' b l (some 3) ∧ Kp (fun k => k = b) w w' := by
  have H := Lib.hid h
  clear h
  go_enter Tryd.func20, Tryd.ntmps20
  go_wp2_with fail
  refine (isWidth_any _ _).mono ?_
  rintro e w1 ⟨rfl, rfl⟩
  go_wp2_with fail
  refine (read_num_failed H.out (by decide) n).mono ?_
  rintro e w1 ⟨rfl, ho, hk⟩
  have Ho := Lib.hid ho
  have Hk := Lib.hid hk
  clear ho hk
  go_wp2_with fail
  go_ret
  exact ⟨rfl, Ho.out, Hk.out⟩
set_option maxHeartbeats 400000 in
theorem text_short {G : Nat → Prop} {w : World} {b : Nat} {l : List UInt8} (h : Opn G w b l none) (hG : G w.heap.size) (n : Nat) (hn : l.length < n) :
    Calls Tryd.prog 19 #[.pointer (some ⟨b, 0, none⟩), .int .i64 n] w fun e w' => e = .returned (.string ⟨#[]⟩) ∧ Opn G w' b l (some 3) ∧ Kp (fun k => k = b) w w' := by
  have H := Lib.hid h
  have HG := Lib.hid hG
  have HN := Lib.hid hn
  clear h hG hn
  go_enter Tryd.func19, Tryd.ntmps19
  go_wp2_with fail
  refine (read_text_short H.out HG.out n (.inr (by have := HN.out; omega))).mono ?_
  rintro e w1 ⟨rfl, ho, hk⟩
  have Ho := Lib.hid ho
  have Hk := Lib.hid hk
  clear ho hk
  go_wp2_with fail
  go_ret
  exact ⟨rfl, Ho.out, Hk.out⟩
set_option maxHeartbeats 400000 in
theorem text_failed {G : Nat → Prop} {w : World} {b : Nat} {l : List UInt8} (h : Opn G w b l (some 3)) (n : Nat) :
    Calls Tryd.prog 19 #[.pointer (some ⟨b, 0, none⟩), .int .i64 n] w fun e w' => e = .returned (.string ⟨#[]⟩) ∧ Opn G w' b l (some 3) ∧ Kp (fun k => k = b) w w' := by
  have H := Lib.hid h
  clear h
  go_enter Tryd.func19, Tryd.ntmps19
  go_wp2_with fail
  refine (read_text_failed H.out (by decide) n).mono ?_
  rintro e w1 ⟨rfl, ho, hk⟩
  have Ho := Lib.hid ho
  have Hk := Lib.hid hk
  clear ho hk
  go_wp2_with fail
  go_ret
  exact ⟨rfl, Ho.out, Hk.out⟩
theorem gv_fine {n : Nat} {l : List UInt8} (h : n ≤ l.length) : gv n (l, false) = (l.take n, (l.drop n, false)) := by simp [gv, h]
theorem gv_short {n : Nat} {l : List UInt8} (h : l.length < n) : gv n (l, false) = ([], (l, true)) := by
  unfold gv
  rw [if_neg (by simp), if_neg (by simpa using h)]
theorem gv_failed (n : Nat) (l : List UInt8) : gv n (l, true) = ([], (l, true)) := rfl
theorem take_i {B b : Nat} {X : Nat → Prop} {w : World} {s : List UInt8 × Bool} (h : Oi B X w b s) (hX : ∀ k, X k → k < w.heap.size) (hB : B ≤ w.heap.size) (n : Nat) (hw : wdB n = true) :
    Calls Tryd.prog 20 #[.pointer (some ⟨b, 0, none⟩), .int .i64 n] w fun e w' => e = .returned (.int .u64 (numN (gv n s).1 : Nat)) ∧ Oi B X w' b (gv n s).2 ∧ Kp (fun k => k = b) w w' := by
  obtain ⟨G, ho, h1, h2⟩ := h.grow hX hB
  obtain ⟨l, f⟩ := s
  rcases f with _ | _
  · rcases Nat.lt_or_ge l.length n with hl | hl
    · rw [gv_short hl]
      exact (take_short ho h1 n hw hl).mono fun e w' ⟨a, b, c⟩ => ⟨a, .back (s := (l, true)) b h2, c⟩
    · rw [gv_fine hl]
      exact (take_fine ho n hw hl).mono fun e w' ⟨a, b, c⟩ => ⟨a, .back (s := (l.drop n, false)) b h2, c⟩
  · rw [gv_failed]
    exact (take_failed ho n hw).mono fun e w' ⟨a, b, c⟩ => ⟨a, .back (s := (l, true)) b h2, c⟩
theorem text_i {B b : Nat} {X : Nat → Prop} {w : World} {s : List UInt8 × Bool} (h : Oi B X w b s) (hX : ∀ k, X k → k < w.heap.size) (hB : B ≤ w.heap.size) (n : Nat) :
    Calls Tryd.prog 19 #[.pointer (some ⟨b, 0, none⟩), .int .i64 n] w fun e w' => e = .returned (.string ⟨(gv n s).1.toArray⟩) ∧ Oi B X w' b (gv n s).2 ∧ Kp (fun k => k = b) w w' := by
  obtain ⟨G, ho, h1, h2⟩ := h.grow hX hB
  obtain ⟨l, f⟩ := s
  rcases f with _ | _
  · rcases Nat.lt_or_ge l.length n with hl | hl
    · rw [gv_short hl]
      exact (text_short ho h1 n hl).mono fun e w' ⟨a, b, c⟩ => ⟨a, .back (s := (l, true)) b h2, c⟩
    · rw [gv_fine hl]
      exact (otext_fine ho n hl).mono fun e w' ⟨a, b, c⟩ => ⟨a, .back (s := (l.drop n, false)) b h2, c⟩
  · rw [gv_failed]
    exact (text_failed ho n).mono fun e w' ⟨a, b, c⟩ => ⟨a, .back (s := (l, true)) b h2, c⟩


set_option maxHeartbeats 400000 in
theorem left_i {B b : Nat} {X : Nat → Prop} {w : World} {s : List UInt8 × Bool} (h : Oi B X w b s) :
    Calls Tryd.prog 42 #[.pointer (some ⟨b, 0, none⟩)] w fun e w' => e = .returned (.int .i64 s.1.length) ∧ w = w' := by
  obtain ⟨G, ho, _⟩ := h
  exact left_any ho
theorem Oi.grow' {B b : Nat} {X : Nat → Prop} {w : World} {s : List UInt8 × Bool} (h : Oi B X w b s) (hX : ∀ k, X k → k < w.heap.size) (hB : B ≤ w.heap.size) : ∃ G : Nat → Prop, Opn G w b s.1 (flS s.2) ∧ (∀ k, w.heap.size ≤ k → G k) ∧ ∀ k, G k → B ≤ k ∧ ¬ X k := by
  obtain ⟨G, ho, hg⟩ := h
  refine ⟨fun k => G k ∨ w.heap.size ≤ k, ho.mono fun k g => .inl g, fun k h => .inr h, fun k g => ?_⟩
  rcases g with g | g
  · exact ⟨(hg k g).1, (hg k g).2.2⟩
  · exact ⟨Nat.le_trans hB g, fun e => by have := hX k e; omega⟩
theorem info_hash' : (Tryd.prog.info? 44).map (·.size) = some 32 := by kernel_rfl
set_option maxHeartbeats 400000 in
theorem ohash_gen {G : Nat → Prop} {w : World} {b : Nat} {r x : List UInt8} {f' : Option Int} (hx : x.length = 32) (hlt : b < w.heap.size)
    (hc : Calls Tryd.prog 60 #[.pointer (some ⟨b, 0, none⟩), .int .i64 32, .func (Fn.func 61) #[] #[]] (w.alloc (.cells (bcs zeros32).toArray 44)) fun e w' => e = .returned (.agg (bcs x).toArray) ∧ Opn (fun k => G k ∧ k ≠ w.heap.size) w' b r f' ∧ Kp (fun k => k = b) (w.alloc (.cells (bcs zeros32).toArray 44)) w') :
    Calls Tryd.prog 51 #[.pointer (some ⟨b, 0, none⟩)] w fun e w' => e = .returned (.agg (bcs x).toArray) ∧ Opn G w' b r f' ∧ Kp (fun k => k = b) w w' := by
  have Hr : Hid (Tryd.f51.results = #[.cell 2 44]) := Lib.hid (by kernel_rfl)
  have HC := Lib.hid hc
  have Hl := Lib.hid hx
  clear hc hx
  go_enter Tryd.func51, Tryd.ntmps51
  go_wp2_with fail
  rw [zero_bcs]
  refine HC.out.mono ?_
  rintro e w1 ⟨rfl, ho, hk⟩
  have Hg := Lib.hid ((Box.new w 44 (bcs zeros32).toArray).kp hk (by omega))
  have Ho := Lib.hid ho
  have Hk := Lib.hid hk
  clear ho hk
  go_wp2_with (refine wpList_store_row rfl 44 (.tmp 2) (.tmp 4) rfl w.heap.size (bcs x).toArray rfl rfl 44 (bcs zeros32).toArray Hg.out ?c1 ?c2 (bcs_all _) ?_)
  case c1 => rw [List.size_toArray, bcs_length, Hl.out]; exact info_hash'
  case c2 => simp only [List.size_toArray, bcs_length, Hl.out, zeros32_length]
  refine bodyPost_ret (v := .agg (bcs x).toArray) ?_ rfl ⟨rfl, ?_, ?_⟩
  · exact results_cell_row Hr.out _ _ w.heap.size 44 _ (0, 0) _ rfl (Hg.out.setRow _) Tryd.underlying44 rfl (by rw [List.size_toArray, bcs_length, Hl.out]; exact info_hash')
  · exact Ho.out.on ((Kp.refl (fun k => k = w.heap.size) w1).setRow (.inr rfl) _)
  · have k1 : Kp (fun k => k = b) w w1 := ((Kp.refl _ _).alloc _).trans Hk.out
    exact k1.setRow (.inl (Nat.le_refl _)) _
/-- A hash that an opener in whatever state gives. -/
def ghD (s : List UInt8 × Bool) : List UInt8 := if (gv 32 s).1.length = 32 then (gv 32 s).1 else zeros32
theorem Opn.ltb {G : Nat → Prop} {w : World} {b : Nat} {l : List UInt8} {f : Option Int} (h : Opn G w b l f) : b < w.heap.size := by obtain ⟨_, _, _, _, hx, _⟩ := h; exact hx.lt
theorem hash_i {B b : Nat} {X : Nat → Prop} {w : World} {s : List UInt8 × Bool} (h : Oi B X w b s) (hX : ∀ k, X k → k < w.heap.size) (hB : B ≤ w.heap.size) :
    Calls Tryd.prog 51 #[.pointer (some ⟨b, 0, none⟩)] w fun e w' => e = .returned (.agg (bcs (ghD s)).toArray) ∧ Oi B X w' b (gv 32 s).2 ∧ Kp (fun k => k = b) w w' := by
  obtain ⟨G, ho, h1, h2⟩ := h.grow' hX hB
  obtain ⟨l, f⟩ := s
  have hoff := ho.off
  rw [zero_bcs] at hoff
  have hn : ∀ k, (w.alloc (.cells (bcs zeros32).toArray 44)).heap.size ≤ k → G k ∧ k ≠ w.heap.size := fun k hk => by
    rw [World.size_alloc] at hk
    exact ⟨h1 k (by omega), by omega⟩
  rcases f with _ | _
  · rcases Nat.lt_or_ge l.length 32 with hl | hl
    · have e1 : ghD (l, false) = zeros32 := by unfold ghD; rw [gv_short hl]; simp
      rw [e1, gv_short hl]
      refine (ohash_gen zeros32_length ho.ltb (read_hash_short hoff hn hl)).mono fun e w' ⟨a, b, c⟩ => ⟨a, .back (s := (l, true)) b h2, c⟩
    · have e1 : ghD (l, false) = l.take 32 := by unfold ghD; rw [gv_fine hl]; simp; omega
      rw [e1, gv_fine hl]
      refine (ohash_gen (by simp; omega) ho.ltb (read_hash_fine hoff hl)).mono fun e w' ⟨a, b, c⟩ => ⟨a, .back (s := (l.drop 32, false)) b h2, c⟩
  · have e1 : ghD (l, true) = zeros32 := by unfold ghD; rw [gv_failed]; simp
    rw [e1, gv_failed]
    refine (ohash_gen zeros32_length ho.ltb (read_hash_failed hoff (by decide))).mono fun e w' ⟨a, b, c⟩ => ⟨a, .back (s := (l, true)) b h2, c⟩
/-- A name that an opener in whatever state gives. -/
def gnN (l : List UInt8) : Nat := match l with | [] => 1 | y :: _ => y.toNat + 1
end Go.Proofs.YtcgfnfejacgaeaaDoor
