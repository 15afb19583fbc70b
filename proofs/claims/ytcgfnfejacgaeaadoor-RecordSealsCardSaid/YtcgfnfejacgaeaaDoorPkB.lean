/- A packer's texts, names and hashes, and all its bytes; an opener of bytes. At most 2^47 bytes in all. -/
import Derived.Test.YtcgfnfejacgaeaaDoorPkA
import Derived.Deep.RegionWith
namespace Go.Proofs.YtcgfnfejacgaeaaDoor
open Go.RowKit

/-- A text's bytes. -/
abbrev tb (s : ByteArray) : List UInt8 := s.data.toList

theorem rd_text (w : World) (s : ByteArray) (cap : Nat) (t : TypeId) (fz : Nat × Nat) : Rd (w.alloc (.cells (bytesRow s cap) t fz)).drew (some ⟨w.heap.size, 0, none⟩) (tb s) := by
  refine .inr ⟨_, 0, rfl, fun j u hu => ?_⟩
  have hg : (w.alloc (.cells (bytesRow s cap) t fz)).drew.heap[w.heap.size]? = some (.cells (bytesRow s cap) t fz) := heap_alloc_new w _
  rw [cell_of_row _ _ _ _ t fz hg]
  have hj : j < s.data.size := by have := (List.getElem?_eq_some_iff.1 hu).1; simpa using this
  rw [bytesRow, Array.getElem?_append_left (by simpa using hj)]
  simp only [Nat.zero_add, Array.getElem?_map]
  rw [Array.getElem?_toList] at hu
  rw [hu]
  rfl

theorem rd_new (w : World) (s : List UInt8) (t : TypeId) : Rd (w.alloc (.cells (bcs s).toArray t)) (some ⟨w.heap.size, 0, none⟩) s := by
  refine .inr ⟨_, 0, rfl, fun j u hu => ?_⟩
  rw [(Box.new w t _).cell]
  simp [bcs_get, hu]
theorem putS_le (l : List UInt8) (err : Int) (s : List UInt8) : (putS l err s).length ≤ l.length + s.length := by
  unfold putS
  split <;> simp

section
variable {F : Nat → Prop} {w : World} {p : Value} {l : List UInt8} {err : Int}

set_option maxHeartbeats 400000 in
theorem text_any (h : Pk F w p l err) (hF : ∀ k, w.heap.size ≤ k → F k) (s : ByteArray) (hlen : l.length + s.size ≤ 140737488355328) :
    Calls Tryd.prog 27 #[p, .string s] w fun e w' => e = .returned p ∧ Pk F w' p (putS l err (tb s)) err ∧ Kp F w w' := by
  have H := Lib.hid h
  have HF := Lib.hid hF
  clear h hF
  have hbs := run_bytes_of_string (P := Tryd.prog) w 9 23 5 s Tryd.underlying9 Tryd.underlying23 Tryd.underlying5
  generalize hcap : grownCap w s.size 0 5 = cap at hbs
  clear hcap
  generalize hrow : (bytesRow s cap).size = rs at hbs
  clear hrow
  go_enter Tryd.func27, Tryd.ntmps27
  go_wp2_with fail
  refine (add_any (H.out.still (((Kp.refl _ w).alloc _).drew)) (fun k hk => HF.out k (by simp at hk; omega)) (tb s) _ s.size cap rfl (rd_text w s cap _ _) hlen).mono ?_
  rintro e w1 ⟨rfl, h1, h2⟩
  have H1 := Lib.hid h1
  have H2 := Lib.hid h2
  clear h1 h2
  go_wp2_with fail
  go_ret
  exact ⟨rfl, H1.out, (((Kp.refl F w).alloc _).drew).trans H2.out⟩

set_option maxHeartbeats 400000 in
theorem hash_any (h : Pk F w p l err) (hF : ∀ k, w.heap.size ≤ k → F k) (s : List UInt8) (hs : s.length = 32) (hlen : l.length + 32 ≤ 140737488355328) :
    Calls Tryd.prog 25 #[p, .agg (bcs s).toArray] w fun e w' => e = .returned p ∧ Pk F w' p (putS l err s) err ∧ Kp F w w' := by
  have H := Lib.hid h
  have HF := Lib.hid hF
  clear h hF
  have hsz : (bcs s).toArray.size = 32 := by simp [bcs_length, hs]
  have Hs := Lib.hid hs
  clear hs
  go_enter Tryd.func25, Tryd.ntmps25
  go_wp2_with fail
  refine (add_any (H.out.still ((Kp.refl _ w).alloc _)) (fun k hk => HF.out k (by simp at hk; omega)) s _ 32 32 Hs.out (rd_new w s _) (by rw [Hs.out]; exact hlen)).mono ?_
  rintro e w1 ⟨rfl, h1, h2⟩
  have H1 := Lib.hid h1
  have H2 := Lib.hid h2
  clear h1 h2
  go_wp2_with fail
  go_ret
  exact ⟨rfl, H1.out, ((Kp.refl F w).alloc _).trans H2.out⟩

set_option maxHeartbeats 400000 in
theorem bytes_ptr {b : Nat} (h : Pkr F w b l err) (hlen : l.length ≤ 140737488355328) :
    Calls Tryd.prog 28 #[.pointer (some ⟨b, 0, none⟩)] w fun e w' => ∃ v, e = .returned (.tuple #[v, .int .i64 err]) ∧ Sl w' w.heap.size v l ∧ Kp (fun _ => False) w w' := by
  have H := Lib.hid h
  obtain ⟨hb, v, hx, ho, hv⟩ := h
  obtain ⟨A, c, rfl⟩ := own_shape ho
  have hr := Rd.of_own ho
  have c0 := hx.cell 0
  have c1 := hx.cell 1
  simp at c0 c1
  have Hx : Hid (Box w.drew b 86 #[.slice A l.length c, .int .i64 err]) := hx.drew
  have Hr : Hid (Rd w.drew A l) := hr
  clear hx hr ho
  go_enter Tryd.func28, Tryd.ntmps28
  go_wp2_with fail
  go_region_with (go_at_call 33; refine (clone_any A c l w.drew Hr.out hlen).mono ?_; rintro e w1 ⟨v1, rfl, hs1, hk1⟩; have c1' := (Hx.out.kp hk1 (fun h => h)).cell 1; simp at c1'; have Hs1 := Lib.hid hs1; have Hk1 := Lib.hid hk1; clear hs1 hk1)
  all_goals go_wp2
  all_goals go_ret2
  all_goals exact ⟨_, rfl, Hid.out (by assumption), (Kp.refl _ w).drew.trans (Hid.out (by assumption))⟩

set_option maxHeartbeats 400000 in
theorem bytes_nil (w : World) :
    Calls Tryd.prog 28 #[.pointer none] w fun e w' => e = .returned (.tuple #[.slice none 0 0, .int .i64 1]) ∧ w = w' := by
  go_enter Tryd.func28, Tryd.ntmps28
  go_wp2_with fail
  go_ret2
  exact ⟨rfl, rfl⟩

/-- All the bytes, or none and the error. -/
theorem bytes_any (h : Pk F w p l err) (hlen : l.length ≤ 140737488355328) :
    Calls Tryd.prog 28 #[p] w fun e w' => ∃ A c, e = .returned (.tuple #[.slice A l.length c, .int .i64 err]) ∧ l.length ≤ c ∧ c ≤ maxLen ∧ Rd w' A l ∧ (∀ a, A = some a → w.heap.size ≤ a.block) ∧ Kp (fun _ => False) w w' := by
  obtain ⟨h0, ⟨rfl, rfl⟩ | ⟨b, rfl, h⟩⟩ := h
  · obtain rfl := h0 (by decide)
    refine (bytes_nil w).mono ?_
    rintro e w' ⟨rfl, rfl⟩
    exact ⟨none, 0, rfl, Nat.le_refl _, by simp [maxLen], Rd.nil _ _, (fun _ h => by cases h), Kp.refl _ _⟩
  · refine (bytes_ptr h hlen).mono ?_
    rintro e w' ⟨v, rfl, ⟨A, c, rfl, h1, h2, h3, h4⟩, hk⟩
    exact ⟨A, c, rfl, h1, h2, h3, h4, hk⟩

set_option maxHeartbeats 400000 in
theorem of_any (G : Nat → Prop) (w : World) (hG : ∀ k, w.heap.size ≤ k → G k) (A : Option Addr) (n c : Nat) (l : List UInt8) (hn : l.length = n) (hr : Rd w A l) (hlen : l.length ≤ 140737488355328) :
    Calls Tryd.prog 18 #[.slice A n c] w fun e w' => ∃ b, e = .returned (.pointer (some ⟨b, 0, none⟩)) ∧ w.heap.size ≤ b ∧ Opn G w' b l none ∧ Kp (fun _ => False) w w' := by
  subst hn
  have Hr := Lib.hid hr
  have HG := Lib.hid hG
  clear hr hG
  go_enter Tryd.func18, Tryd.ntmps18
  go_wp2_with fail
  refine (clone_any A c l w Hr.out hlen).mono ?_
  rintro e w1 ⟨v, rfl, ⟨A1, c1, rfl, h1, h2, h3, h4⟩, hk⟩
  have Hd := Lib.hid (And.intro h3 h4)
  have Hk := Lib.hid hk
  clear h3 h4 hk
  go_wp2_with fail
  go_ret
  have hs := Hk.out.size
  refine ⟨_, rfl, hs, ⟨HG.out _ hs, A1, c1, .nilFunc, ?_, h1, h2, Hd.out.1.alloc _, fun _ a ha => HG.out _ (Hd.out.2 a ha), rfl⟩, Hk.out.alloc _⟩
  exact Box.new w1 _ _

end

end Go.Proofs.YtcgfnfejacgaeaaDoor
