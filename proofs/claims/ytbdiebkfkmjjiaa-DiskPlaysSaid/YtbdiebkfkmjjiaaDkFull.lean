/- A sector of one byte, and what an act hands to a write. No condition. -/
import Derived.Test.YtbdiebkfkmjjiaaDkAll
namespace Go.Proofs.Ytbdiebkfkmjjiaa
open Go.RowKit Go.Maps

def fullL (c : UInt8) : List UInt8 := List.replicate 512 c
theorem fullL_length (c : UInt8) : (fullL c).length = 512 := List.length_replicate
def fullAt (c : UInt8) (k : Nat) : List UInt8 := List.replicate k c ++ List.replicate (512 - k) 0
theorem fullAt_length (c : UInt8) (k : Nat) (h : k ≤ 512) : (fullAt c k).length = 512 := by simp only [fullAt, List.length_append, List.length_replicate]; omega
theorem fullAt_get (c : UInt8) (k : Nat) (h : k < 512) : (fullAt c k)[k]? = some 0 := by
  rw [fullAt, List.getElem?_append_right (by simp), List.length_replicate, Nat.sub_self, List.getElem?_replicate_of_lt (by omega)]
theorem fullAt_set (c : UInt8) (k : Nat) (h : k < 512) : (fullAt c k).set k c = fullAt c (k + 1) := by
  rw [fullAt, fullAt, List.set_append_right _ _ (by simp), List.length_replicate, Nat.sub_self]
  obtain ⟨m, hm⟩ : ∃ m, 512 - k = m + 1 := ⟨511 - k, by omega⟩
  rw [hm, show 512 - (k + 1) = m by omega, List.replicate_succ, List.replicate_succ']
  simp
theorem fullAt_end (c : UInt8) : fullAt c 512 = fullL c := by
  rw [fullAt, fullL, Nat.sub_self, List.replicate_zero, List.append_nil]
theorem bcs_set (l : List UInt8) (k : Nat) (c : UInt8) : (bcs l).toArray.setIfInBounds k (.int .u8 c.toNat) = (bcs (l.set k c)).toArray := by
  rw [List.setIfInBounds_toArray]
  congr 1
  simp [bcs, List.map_set]
theorem u8Info : ∃ i, Try.prog.info? 5 = some i ∧ i.zero = some (.int .u8 0) ∧ i.size = 1 ∧ i.bytes = 1 := by
  have h : (Try.prog.info? 5).map (fun i => (i.zero, i.size, i.bytes)) = some (some (.int .u8 0), 1, 1) := by kernel_rfl
  obtain ⟨i, h1, h2, h3, h4⟩ := info_parts h
  exact ⟨i, h1, h2, h3, h4⟩

set_option maxRecDepth 100000 in
set_option maxHeartbeats 2000000 in
theorem full_any (c : UInt8) (w : World) :
    Calls Try.prog 25 #[.int .u8 c.toNat] w fun e w' => ∃ g, e = .returned (.slice (some ⟨g, 0, none⟩) 512 512) ∧ Box w' g 5 (bcs (fullL c)).toArray ∧ w.heap.size ≤ g ∧ Kp (fun _ => False) w w' := by
  obtain ⟨i, i1, i2, i3, i4⟩ := u8Info
  have hmk : (Instr.makeSlice 47 (.int .i64 512) (.int .i64 512)).run Try.prog w = .ok (.slice (some ⟨w.heap.size, 0, none⟩) 512 512) (w.alloc (.cells (bcs (fullAt c 0)).toArray 5)) := by
    have := run_make (P := Try.prog) w 47 _ i _ Try.underlying47 i1 i2 .i64 .i64 512 512 (by decide) (by decide) (by rw [i4]; decide) (by decide)
    have e : madeCells (Value.int .u8 0).cells ((512 : Int).toNat * i.size) = (bcs (fullAt c 0)).toArray := by
      rw [i3]
      have e1 := made_rep 1 512 (by decide) (.int .u8 0)
      have e2 : fullAt c 0 = List.replicate 512 0 := by rw [fullAt, List.replicate_zero, List.nil_append]
      rw [e2, bcs_rep]
      exact e1
    rw [e] at this
    exact this
  clear i1 i2 i3 i4
  go_enter Try.func25, Try.ntmps25
  go_wp2_with fail
  have hb0 := Box.new w 5 (bcs (fullAt c 0)).toArray
  have k0 : Kp (fun _ => False) w (w.alloc (.cells (bcs (fullAt c 0)).toArray 5)) := (Kp.refl _ w).alloc _
  clear hmk
  generalize w.alloc (.cells (bcs (fullAt c 0)).toArray 5) = W at *
  have HB0 := Lib.hid hb0
  have K0 := Lib.hid k0
  clear hb0 k0
  go_loopw [4] (fun i wr => ∃ k : Nat, k ≤ 512 ∧ i = .int .i64 k ∧ Box wr w.heap.size 5 (bcs (fullAt c k)).toArray ∧ Kp (fun _ => False) w wr)
    (fun i _ => 512 - (intOf i).toNat)
  case atStart => exact ⟨0, Nat.zero_le _, rfl, HB0.out, K0.out⟩
  case round =>
    obtain ⟨k, hk, rfl, hb, hkw⟩ := hrel
    have HB := Lib.hid hb
    have HK := Lib.hid hkw
    by_cases hlt : k < 512
    · have hc : wr.cell? ⟨w.heap.size, k, none⟩ = some (.int .u8 0) := by
        rw [hb.cell]
        simp [bcs_get, fullAt_get c k hlt]
      have hf := hb.free k
      clear hb hkw
      go_wp2_with fail
      go_roundw
      case rel =>
        refine ⟨k + 1, by omega, by go_num, ?_, HK.out.setCell (.inl (Nat.le_refl _)) _⟩
        have := HB.out.put k (.int .u8 c.toNat)
        rwa [bcs_set, fullAt_set c k hlt] at this
      case measure => simp [intOf]; omega
    · have hk5 : k = 512 := by omega
      have hge : ¬ ((k : Int) < 512) := by omega
      clear hb hkw
      go_wp2_with fail
      go_ret
      refine ⟨_, rfl, ?_, Nat.le_refl _, HK.out⟩
      have := HB.out
      rwa [hk5, fullAt_end] at this

/-- Bytes that are new. -/
def NewB (w w' : World) (A : Option Addr) (l : List UInt8) : Prop := ∃ g o cs, A = some ⟨g, o, none⟩ ∧ w.heap.size ≤ g ∧ Box w' g 5 cs ∧ Rd w' A l
theorem NewB.rd {w w' : World} {A : Option Addr} {l : List UInt8} (h : NewB w w' A l) : Rd w' A l := by
  obtain ⟨g, o, cs, _, _, _, hr⟩ := h
  exact hr
theorem NewB.off {w w' : World} {A : Option Addr} {l : List UInt8} (h : NewB w w' A l) : ∀ ad, A = some ad → ∀ cs fr, w'.heap[ad.block]? ≠ some (.cells cs 71 fr) := by
  obtain ⟨g, o, cs, rfl, _, hb, _⟩ := h
  rintro ad e cs fr hh
  cases e
  unfold Box at hb
  rw [hb] at hh
  injection hh with hh
  injection hh with _ h2
  exact absurd h2 (by decide)
theorem NewB.of_box {w w' : World} {g : Nat} {l : List UInt8} (hb : Box w' g 5 (bcs l).toArray) (hg : w.heap.size ≤ g) : NewB w w' (some ⟨g, 0, none⟩) l :=
  ⟨g, 0, _, rfl, hg, hb, .inr ⟨g, 0, rfl, fun j u hj => by rw [hb.cell, Nat.zero_add]; simp [bcs_get, hj]⟩⟩
/-- What an act hands to a write. -/
def dataL (c : UInt8) (short : Bool) : List UInt8 := if short then List.replicate 511 c else fullL c
theorem dataL_true (c : UInt8) : dataL c true = List.replicate 511 c := rfl
theorem dataL_false (c : UInt8) : dataL c false = fullL c := rfl
set_option maxHeartbeats 1000000 in
theorem data_any (v0 v1 v2 : Value) (c : UInt8) (short : Bool) (w : World) :
    Calls Try.prog 26 #[.agg #[v0, v1, v2, .int .u8 c.toNat, .bool short]] w fun e w' => ∃ A n, e = .returned (.slice A (dataL c short).length n) ∧ NewB w w' A (dataL c short) ∧ Kp (fun _ => False) w w' := by
  have hbx := Box.new w 39 #[v0, v1, v2, .int .u8 c.toNat, .bool short]
  have HB := Lib.hid hbx
  clear hbx
  rcases short with _ | _
  · go_enter Try.func26, Try.ntmps26
    go_wp2_with fail
    refine (full_any c _).mono ?_
    rintro e w1 ⟨g, rfl, hb, hg, hk⟩
    have c4 := (HB.out.kp hk (fun h => h)).cell 4
    have HG := Lib.hid hb
    have HK := Lib.hid (((Kp.refl (fun _ => False) w).alloc _).trans hk)
    have hg2 : w.heap.size ≤ g := by rw [World.size_alloc] at hg; omega
    clear hb hk hg
    go_wp2_with fail
    go_ret
    rw [dataL_false, fullL_length]
    exact ⟨_, _, rfl, NewB.of_box HG.out hg2, HK.out⟩
  · go_enter Try.func26, Try.ntmps26
    go_wp2_with fail
    refine (full_any c _).mono ?_
    rintro e w1 ⟨g, rfl, hb, hg, hk⟩
    have c4 := (HB.out.kp hk (fun h => h)).cell 4
    have HG := Lib.hid hb
    have HK := Lib.hid (((Kp.refl (fun _ => False) w).alloc _).trans hk)
    have hg2 : w.heap.size ≤ g := by rw [World.size_alloc] at hg; omega
    clear hb hk hg
    go_wp2_with fail
    go_ret
    have hr : Rd w1 (some ⟨g, 1, none⟩) (List.replicate 511 c) := .inr ⟨g, 1, rfl, fun j u hj => by
      rw [HG.out.cell]
      have h1 := (List.getElem?_eq_some_iff.1 hj).1
      rw [List.length_replicate] at h1
      rw [List.getElem?_replicate_of_lt h1] at hj
      cases hj
      rw [List.getElem?_toArray, bcs_get, fullL, List.getElem?_replicate_of_lt (by omega)]
      rfl⟩
    rw [dataL_true, List.length_replicate]
    exact ⟨_, _, rfl, ⟨g, 1, _, rfl, hg2, HG.out, hr⟩, HK.out⟩
end Go.Proofs.Ytbdiebkfkmjjiaa
