/- A packer's bytes as a row of their own. At most 2^47 bytes in all. -/
import Derived.Test.YtjapnkpicefadaaPkB
namespace Go.Proofs.Ytjapnkpicefadaa
open Go.RowKit

set_option maxHeartbeats 400000 in
theorem clone_own (A : Option Addr) (c : Nat) (l : List UInt8) (w : World) (h : Rd w A l) (hlen : l.length ≤ 140737488355328) :
    Calls Try.prog 39 #[.slice A l.length c] w fun e w' => ∃ v, e = .returned v ∧ w'.ownsRow 0 5 1 v l.length (bcs l) ∧ (∀ k, v.ownBlock = some k → w.heap.size ≤ k) ∧ Kp (fun _ => False) w w' := by
  obtain ⟨i0, hi, hz0, hz1, hz2⟩ := info_parts info_byte
  have hnil := Lib.run_eql_slice_nil (P := Try.prog) w 32 5 A l.length c 0 0 Try.underlying32
  rcases A with _ | a
  · have hl : l = [] := by
      rcases h with h | ⟨b, o, e, _⟩
      · exact h
      · cases e
    subst hl
    simp only [List.length_nil, Option.isNone_none] at hnil
    show Calls Try.prog 39 #[.slice none 0 c] w _
    go_enter Try.func39, Try.ntmps39
    go_wp2_with fail
    go_ret
    exact ⟨_, rfl, World.ownsRow_nil _ _ _ _, (fun _ h => by cases h), Kp.refl _ _⟩
  · simp only [Option.isNone_some] at hnil
    have H := Lib.hid h
    clear h
    go_enter Try.func39, Try.ntmps39
    go_wp2_with (at_builtin; refine wpList_put _ rfl (.tmp 5) (.tmp 6) 32 rfl 5 i0 Try.underlying32 hi hz0 hz1 hz2 _ rfl [] l (World.ownsRow_made w #[] 0 (Nat.zero_le _) (by simp [maxLen]) rfl) (some a) l.length c rfl rfl (H.out.alloc _) (by simpa using hlen) ?_)
    intro v' w1 hown hg hat
    have Hown := Lib.hid hown
    have Hg := Lib.hid hg
    have Hat := Lib.hid hat
    clear hown hg hat
    go_wp2_with fail
    go_ret
    have hk : Kp (fun k => w.heap.size ≤ k) w w1 := ((Kp.refl _ w).alloc (.cells #[] 5)).grown Hg.out (by
      intro k hk
      simp [Value.ownBlock] at hk
      exact .inl (by omega))
    refine ⟨v', rfl, Hown.out, ?_, hk.fresh _⟩
    intro k hk
    rcases Hat.out with e | e <;> rw [e] at hk <;> simp [Value.ownBlock] at hk <;> omega


section
variable {F : Nat → Prop} {w : World} {p : Value} {l : List UInt8} {err : Int}
set_option maxHeartbeats 400000 in
theorem bytes_own {b : Nat} (h : Pkr F w b l err) (hlen : l.length ≤ 140737488355328) :
    Calls Try.prog 25 #[.pointer (some ⟨b, 0, none⟩)] w fun e w' => ∃ v, e = .returned (.tuple #[v, .int .i64 err]) ∧ w'.ownsRow 0 5 1 v l.length (bcs l) ∧ (∀ k, v.ownBlock = some k → w.heap.size ≤ k) ∧ Kp (fun _ => False) w w' := by
  have H := Lib.hid h
  obtain ⟨hb, v, hx, ho, hv⟩ := h
  obtain ⟨A, c, rfl⟩ := own_shape ho
  have hr := Rd.of_own ho
  have c0 := hx.cell 0
  have c1 := hx.cell 1
  simp at c0 c1
  have Hx : Hid (Box w.drew b 63 #[.slice A l.length c, .int .i64 err]) := hx.drew
  have Hr : Hid (Rd w.drew A l) := hr
  clear hx hr ho
  go_enter Try.func25, Try.ntmps25
  go_wp2_with fail
  go_region_with (go_at_call 39; refine (clone_own A c l w.drew Hr.out hlen).mono ?_; rintro e w1 ⟨v1, rfl, hs1, ho1, hk1⟩; have Ho1 : Hid (∀ k, v1.ownBlock = some k → w.heap.size ≤ k) := Lib.hid ho1; have c1' := (Hx.out.kp hk1 (fun h => h)).cell 1; simp at c1'; have Hs1 := Lib.hid hs1; have Hk1 := Lib.hid hk1; clear hs1 ho1 hk1)
  all_goals go_wp2
  all_goals go_ret2
  all_goals exact ⟨_, rfl, Hid.out (by assumption), Hid.out (by assumption), (Kp.refl _ w).drew.trans (Hid.out (by assumption))⟩


theorem bytes_any_own (h : Pk F w p l err) (hl : 0 < l.length) (hlen : l.length ≤ 140737488355328) :
    Calls Try.prog 25 #[p] w fun e w' => ∃ g c, e = .returned (.tuple #[.slice (some ⟨g, 0, none⟩) l.length c, .int .i64 err]) ∧ l.length ≤ c ∧ c ≤ maxLen ∧ w'.ownsRow 0 5 1 (.slice (some ⟨g, 0, none⟩) l.length c) l.length (bcs l) ∧ w.heap.size ≤ g ∧ Kp (fun _ => False) w w' := by
  obtain ⟨h0, ⟨rfl, rfl⟩ | ⟨b, rfl, h⟩⟩ := h
  · obtain rfl := h0 (by decide)
    simp at hl
  · refine (bytes_own h hlen).mono ?_
    rintro e w' ⟨v, rfl, ho, hb, hk⟩
    have ho' := ho
    rcases ho.2 with ⟨_, h2⟩ | ⟨g, cap, cur, rfl, _, _, hc, hm, _⟩
    · omega
    · exact ⟨g, cap, rfl, hc, hm, ho', hb g rfl, hk⟩
end
end Go.Proofs.Ytjapnkpicefadaa
