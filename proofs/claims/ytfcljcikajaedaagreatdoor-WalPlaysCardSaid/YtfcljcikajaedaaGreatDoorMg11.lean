/- The acts of the laws of layer 6: how they lie in memory, whether they are more, or greater, than a law looks at, and their texts. No condition. -/
import Derived.Test.YtfcljcikajaedaaGreatDoorMg10
import Derived.Test.YtfcljcikajaedaaGreatDoorMg1
import Derived.Deep.DeepCutAuto
import Derived.Deep.CutRange
import Derived.Deep.CutBlock
namespace Go.Proofs.YtfcljcikajaedaaGreatDoor
open Go.RowKit Go.Maps

/-- An act. -/
structure Aw where
  d : Int
  n : Int
  c : UInt8
  keep : List UInt8
structure Aw.Ok (x : Aw) : Prop where
  d0 : 0 ≤ x.d
  d1 : x.d < 256
  n0 : -9223372036854775808 ≤ x.n
  n1 : x.n ≤ 9223372036854775807
  k1 : x.keep.length ≤ maxLen
def Aw.cells (x : Aw) : Array Value := #[.int .u8 x.d, .int .i64 x.n, .int .u8 x.c.toNat, .string ⟨x.keep.toArray⟩]
/-- A slice at A reads as these acts, in blocks below B. -/
def Aws (w : World) (B : Nat) (A : Option Addr) (l : List Aw) : Prop :=
  (∀ x ∈ l, x.Ok) ∧ (l = [] ∨ ∃ b o, A = some ⟨b, o, none⟩ ∧ b < B ∧ ∀ i x, l[i]? = some x → ∀ j v, x.cells[j]? = some v → w.cell? ⟨b, o + i * 4 + j, none⟩ = some v)
theorem Aws.keep {w w' : World} {B : Nat} {A : Option Addr} {l : List Aw} (h : Aws w B A l) (hk : ∀ k, k < B → w'.heap[k]? = w.heap[k]?) : Aws w' B A l := by
  refine ⟨h.1, ?_⟩
  rcases h.2 with h0 | ⟨b, o, rfl, hb, hc⟩
  · exact .inl h0
  · exact .inr ⟨b, o, rfl, hb, fun i x hx j v hv => (World.cell?_of_block (hk b hb)).trans (hc i x hx j v hv)⟩
/-- More than 30 acts, or a text of more than 40 bytes. -/
def greatW (l : List Aw) : Bool := decide (30 < l.length) || l.any fun x => decide (100 < x.keep.length)
theorem not_greatW {l : List Aw} (h : greatW l = false) : l.length ≤ 30 ∧ ∀ x ∈ l, x.keep.length ≤ 100 := by
  simp [greatW] at h
  exact ⟨h.1, fun x hx => h.2 x hx⟩
section
variable {B : Nat} {A : Option Addr} {l : List Aw} {w : World}

set_option maxHeartbeats 400000 in
theorem greatw_any (h : Aws w B A l) (c : Nat) (hc : l.length ≤ c) (_hm : c ≤ maxLen) :
    Calls Tryz.prog 5 #[.slice A l.length c] w fun e w' => e = .returned (.bool (greatW l)) ∧ w = w' := by
  unfold maxLen at _hm
  have H := Lib.hid h.2
  clear h
  by_cases h30 : 30 < l.length
  · have hg : greatW l = true := by simp [greatW, h30]
    have Hg := Lib.hid hg
    clear hg
    go_enter Tryz.func5, Tryz.ntmps5
    go_wp2_with fail
    go_ret
    exact ⟨by rw [Hg.out]; rfl, rfl⟩
  · have hd : decide (30 < l.length) = false := by simp; omega
    go_enter Tryz.func5, Tryz.ntmps5
    go_wp2_with fail
    go_loop [3] (fun i => ∃ k : Nat, k ≤ l.length ∧ i = .int .i64 k ∧ ∀ x ∈ l.take k, x.keep.length ≤ 100) (fun i => l.length - (intOf i).toNat)
    case atStart => exact ⟨0, Nat.zero_le _, rfl, by simp⟩
    case round =>
      obtain ⟨k, hk, rfl, hx⟩ := hrel
      have Hx := Lib.hid hx
      clear hx
      by_cases hlt : k < l.length
      · obtain ⟨b, o, rfl, _, hcell⟩ : ∃ b o, A = some ⟨b, o, none⟩ ∧ b < B ∧ ∀ i x, l[i]? = some x → ∀ j v, x.cells[j]? = some v → w.cell? ⟨b, o + i * 4 + j, none⟩ = some v := by
          rcases H.out with h0 | h0
          · subst h0; simp at hlt
          · exact h0
        have c3 := hcell k l[k] (List.getElem?_eq_getElem hlt) 3 (.string ⟨l[k].keep.toArray⟩) rfl
        obtain ⟨s, hs⟩ : ∃ s, s = l[k].keep := ⟨_, rfl⟩
        rw [← hs] at c3
        have Hs := Lib.hid hs
        clear hs hcell
        by_cases hb4 : 100 < s.length
        · have hg : greatW l = true := by
            simp only [greatW, Bool.or_eq_true]
            right
            rw [List.any_eq_true]
            exact ⟨l[k], List.getElem_mem _, by rw [← Hs.out]; simpa using hb4⟩
          have Hg := Lib.hid hg
          clear hg
          go_wp2_with fail
          go_ret
          exact ⟨by rw [Hg.out]; rfl, rfl⟩
        · go_wp2_with fail
          go_round
          case rel =>
            refine ⟨k + 1, by omega, by go_num, fun x hx => ?_⟩
            rw [take_snoc l k hlt] at hx
            rcases List.mem_append.1 hx with hx | hx
            · exact Hx.out x hx
            · have e := List.mem_singleton.1 hx
              rw [e, ← Hs.out]
              omega
          case measure => simp [intOf]; omega
      · have hg : greatW l = false := by
          have h1 := Hx.out
          rw [List.take_of_length_le (by omega)] at h1
          simp only [greatW, Bool.or_eq_false_iff]
          refine ⟨hd, ?_⟩
          rw [List.any_eq_false]
          intro x hx
          have := h1 x hx
          simp
          omega
        have Hg := Lib.hid hg
        clear hg
        go_wp2_with fail
        go_ret
        exact ⟨by rw [Hg.out]; rfl, rfl⟩
end

/-- A text's byte. -/
def byteT (c : UInt8) (i : Nat) : UInt8 := c + UInt8.ofNat (i / 100)
/-- An act's text. -/
def Aw.len (x : Aw) : Nat := (x.n.tmod 60000).natAbs
def Aw.text (x : Aw) : List UInt8 := (List.range x.len).map (byteT x.c)
theorem Aw.len_lt (x : Aw) : x.len < 60000 := by
  unfold Aw.len
  have h1 := Int.tmod_lt_of_pos x.n (show (0 : Int) < 60000 by decide)
  have h2 := Int.lt_tmod_of_pos x.n (show (0 : Int) < 60000 by decide)
  omega
theorem Aw.text_length (x : Aw) : x.text.length = x.len := by simp [Aw.text]
def textK (c : UInt8) (m k : Nat) : List UInt8 := (List.range k).map (byteT c) ++ List.replicate (m - k) 0
theorem textK_length (c : UInt8) (m k : Nat) (h : k ≤ m) : (textK c m k).length = m := by simp [textK]; omega
theorem textK_get (c : UInt8) (m k : Nat) (h : k < m) : (textK c m k)[k]? = some 0 := by
  rw [textK, List.getElem?_append_right (by simp), List.length_map, List.length_range, Nat.sub_self, List.getElem?_replicate_of_lt (by omega)]
theorem textK_set (c : UInt8) (m k : Nat) (h : k < m) : (textK c m k).set k (byteT c k) = textK c m (k + 1) := by
  rw [textK, textK, List.set_append_right _ _ (by simp), List.length_map, List.length_range, Nat.sub_self]
  obtain ⟨q, hq⟩ : ∃ q, m - k = q + 1 := ⟨m - k - 1, by omega⟩
  rw [hq, show m - (k + 1) = q by omega, List.replicate_succ, List.range_succ, List.map_append]
  simp
theorem byteT_int (c : UInt8) (i : Nat) : ((byteT c i).toNat : Int) = ((c.toNat : Int) + (i : Int) / 100) % 256 := by
  have e : (byteT c i).toNat = (c.toNat + i / 100 % 256) % 256 := by simp [byteT, UInt8.toNat_add]
  rw [e]
  omega
set_option maxRecDepth 100000 in
set_option maxHeartbeats 4000000 in
theorem text_act (x : Aw) (w : World) :
    Calls Tryz.prog 14 #[.agg x.cells] w fun e w' => e = .returned (.string ⟨x.text.toArray⟩) ∧ Kp (fun _ => False) w w' := by
  obtain ⟨i, i1, i2, i3, i4⟩ := u8Info
  obtain ⟨r, hr⟩ : ∃ r, x.n.tmod 60000 = r := ⟨_, rfl⟩
  obtain ⟨m, hm⟩ : ∃ m, x.len = m := ⟨_, rfl⟩
  have hmr : r.natAbs = m := by rw [← hm, Aw.len, hr]
  have hm6 : m < 60000 := by rw [← hm]; exact x.len_lt
  have htx : x.text = textK x.c m m := by simp [Aw.text, textK, hm]
  rw [htx]
  obtain ⟨c, hc⟩ : ∃ c, x.c = c := ⟨_, rfl⟩
  obtain ⟨nn, hnn⟩ : ∃ nn, x.n = nn := ⟨_, rfl⟩
  have hcl : x.cells = #[.int .u8 x.d, .int .i64 nn, .int .u8 c.toNat, .string ⟨x.keep.toArray⟩] := by rw [Aw.cells, hc, hnn]
  rw [hcl, hc]
  rw [hnn] at hr
  have B0 := Lib.hid (Box.new w 30 #[.int .u8 x.d, .int .i64 nn, .int .u8 c.toNat, .string ⟨x.keep.toArray⟩])
  have K0 := Lib.hid ((Kp.refl (fun _ => False) w).alloc (.cells #[.int .u8 x.d, .int .i64 nn, .int .u8 c.toNat, .string ⟨x.keep.toArray⟩] 30))
  have HMR := Lib.hid hmr
  have hmk : ∀ W : World, (Instr.makeSlice 31 (.int .i64 m) (.int .i64 m)).run Tryz.prog W = .ok (.slice (some ⟨W.heap.size, 0, none⟩) m m) (W.alloc (.cells (bcs (textK c m 0)).toArray 5)) := fun W => by
    have := run_make (P := Tryz.prog) W 31 _ i _ Tryz.underlying31 i1 i2 .i64 .i64 (m : Int) (m : Int) (by omega) (by omega) (by rw [i4]; omega) (by omega)
    have e : madeCells (Value.int .u8 0).cells ((m : Int).toNat * i.size) = (bcs (textK c m 0)).toArray := by
      rw [i3]
      have e1 := dmade_rep 1 m (by decide) (.int .u8 0)
      have e2 : textK c m 0 = List.replicate m 0 := by simp [textK]
      rw [e2, bcs_rep, Nat.mul_one]
      exact e1
    rw [e] at this
    exact this
  have HMK := Lib.hid hmk
  clear i1 i2 i3 i4 hm htx hc hnn hcl hmr hmk
  rcases Int.lt_or_le r 0 with hneg | hpos
  · have hrm : -r = (m : Int) := by have := HMR.out; omega
    go_enter Tryz.func14, Tryz.ntmps14
    go_upto_region 1 with fail
    generalize w.alloc (.cells #[.int .u8 x.d, .int .i64 nn, .int .u8 c.toNat, .string ⟨x.keep.toArray⟩] 30) = w0 at *
    have c1 := B0.out.cell 1
    simp at c1
    go_upto_region 4 with fail
    clear c1 hr hneg hrm
    have hmk := HMK.out w0
    have A1 := Lib.hid (B0.out.alloc (.cells (bcs (textK c m 0)).toArray 5))
    have K1 := Lib.hid (K0.out.alloc (.cells (bcs (textK c m 0)).toArray 5))
    have R1 := Lib.hid (Box.new w0 5 (bcs (textK c m 0)).toArray)
    have hg0 := K0.out.size
    have hgl := B0.out.lt
    go_wp2_with fail
    clear hmk
    generalize w0.alloc (.cells (bcs (textK c m 0)).toArray 5) = w1 at *
    generalize hgg : w0.heap.size = g at *
    clear hgg
    go_loopw [5] (fun i wr => ∃ k : Nat, k ≤ m ∧ i = .int .i64 k ∧ Box wr g 5 (bcs (textK c m k)).toArray ∧ Box wr w.heap.size 30 #[.int .u8 x.d, .int .i64 nn, .int .u8 c.toNat, .string ⟨x.keep.toArray⟩] ∧ Kp (fun _ => False) w wr)
      (fun i _ => m - (intOf i).toNat)
    case atStart => exact ⟨0, Nat.zero_le _, rfl, R1.out, A1.out, K1.out⟩
    case round =>
      obtain ⟨k, hk, rfl, hb, ha, hkw⟩ := hrel
      have HB := Lib.hid hb
      have HA := Lib.hid ha
      have HK := Lib.hid hkw
      clear hb ha hkw
      by_cases hlt : k < m
      · have hc : wr.cell? ⟨g, k, none⟩ = some (.int .u8 0) := by
          rw [HB.out.cell]
          simp [bcs_get, textK_get c m k hlt]
        have hf := HB.out.free k
        have a2 := HA.out.cell 2
        simp at a2
        go_wp2_with fail
        go_roundw
        case rel =>
          refine ⟨k + 1, by omega, by go_num, ?_, HA.out.far (p := ⟨g, k, none⟩) (show w.heap.size ≠ g by omega) _, HK.out.setCell (.inl hg0) _⟩
          have := HB.out.put k (.int .u8 (byteT c k).toNat)
          rw [bcs_set, textK_set c m k hlt, byteT_int] at this
          exact this
        case measure => simp [intOf]; omega
      · have hkm : k = m := by omega
        have hge : ¬ ((k : Int) < (m : Int)) := by omega
        have hrd : Rd wr (some ⟨g, 0, none⟩) (textK c m m) := .inr ⟨g, 0, rfl, fun j u hj => by
          have h1 := HB.out
          rw [hkm] at h1
          rw [h1.cell, Nat.zero_add]
          simp [bcs_get, hj]⟩
        have ht := hrd.text (P := Tryz.prog) 31 9 5 m Tryz.underlying31 Tryz.underlying5 Tryz.underlying9
        rw [textK_length c m m (Nat.le_refl _)] at ht
        clear hrd hkm
        go_wp2_with fail
        go_ret
        exact ⟨rfl, HK.out⟩
  · have hrm : r = (m : Int) := by have := HMR.out; omega
    subst hrm
    have hd0 : ¬ ((m : Int) < 0) := by omega
    go_enter Tryz.func14, Tryz.ntmps14
    go_upto_region 1 with fail
    generalize w.alloc (.cells #[.int .u8 x.d, .int .i64 nn, .int .u8 c.toNat, .string ⟨x.keep.toArray⟩] 30) = w0 at *
    have c1 := B0.out.cell 1
    simp at c1
    go_upto_region 4 with fail
    clear c1 hr hpos
    have hmk := HMK.out w0
    have A1 := Lib.hid (B0.out.alloc (.cells (bcs (textK c m 0)).toArray 5))
    have K1 := Lib.hid (K0.out.alloc (.cells (bcs (textK c m 0)).toArray 5))
    have R1 := Lib.hid (Box.new w0 5 (bcs (textK c m 0)).toArray)
    have hg0 := K0.out.size
    have hgl := B0.out.lt
    go_wp2_with fail
    clear hmk
    generalize w0.alloc (.cells (bcs (textK c m 0)).toArray 5) = w1 at *
    generalize hgg : w0.heap.size = g at *
    clear hgg
    go_loopw [5] (fun i wr => ∃ k : Nat, k ≤ m ∧ i = .int .i64 k ∧ Box wr g 5 (bcs (textK c m k)).toArray ∧ Box wr w.heap.size 30 #[.int .u8 x.d, .int .i64 nn, .int .u8 c.toNat, .string ⟨x.keep.toArray⟩] ∧ Kp (fun _ => False) w wr)
      (fun i _ => m - (intOf i).toNat)
    case atStart => exact ⟨0, Nat.zero_le _, rfl, R1.out, A1.out, K1.out⟩
    case round =>
      obtain ⟨k, hk, rfl, hb, ha, hkw⟩ := hrel
      have HB := Lib.hid hb
      have HA := Lib.hid ha
      have HK := Lib.hid hkw
      clear hb ha hkw
      by_cases hlt : k < m
      · have hc : wr.cell? ⟨g, k, none⟩ = some (.int .u8 0) := by
          rw [HB.out.cell]
          simp [bcs_get, textK_get c m k hlt]
        have hf := HB.out.free k
        have a2 := HA.out.cell 2
        simp at a2
        go_wp2_with fail
        go_roundw
        case rel =>
          refine ⟨k + 1, by omega, by go_num, ?_, HA.out.far (p := ⟨g, k, none⟩) (show w.heap.size ≠ g by omega) _, HK.out.setCell (.inl hg0) _⟩
          have := HB.out.put k (.int .u8 (byteT c k).toNat)
          rw [bcs_set, textK_set c m k hlt, byteT_int] at this
          exact this
        case measure => simp [intOf]; omega
      · have hkm : k = m := by omega
        have hge : ¬ ((k : Int) < (m : Int)) := by omega
        have hrd : Rd wr (some ⟨g, 0, none⟩) (textK c m m) := .inr ⟨g, 0, rfl, fun j u hj => by
          have h1 := HB.out
          rw [hkm] at h1
          rw [h1.cell, Nat.zero_add]
          simp [bcs_get, hj]⟩
        have ht := hrd.text (P := Tryz.prog) 31 9 5 m Tryz.underlying31 Tryz.underlying5 Tryz.underlying9
        rw [textK_length c m m (Nat.le_refl _)] at ht
        clear hrd hkm
        go_wp2_with fail
        go_ret
        exact ⟨rfl, HK.out⟩
end Go.Proofs.YtfcljcikajaedaaGreatDoor
