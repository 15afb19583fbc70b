/- Sheets in memory, put together and compared: what texts and slices.Equal answer. Condition: at most 2^20 sheets. -/
import Derived.Test.YtdacjhgjaneeeaaDoorShCut
import Derived.Test.YtdacjhgjaneeeaaDoorShTakeA
import Derived.Test.YtdacjhgjaneeeaaDoorShelf
import Derived.Laws.StructEq
import Derived.Shelf.SlicesE.Equal
namespace Go.Proofs.YtdacjhgjaneeeaaDoor
open Go.RowKit

/-- A slice at the address A reads as these sheets. -/
def RdS (w : World) (A : Option Addr) (l : List Sh) : Prop :=
  l = [] ∨ ∃ b o, A = some ⟨b, o, none⟩ ∧ ∀ j v, (rowS l)[j]? = some v → w.cell? ⟨b, o + j, none⟩ = some v
theorem rowS_get (l : List Sh) (k : Nat) (h : k < l.length) (i : Nat) (hi : i < 3) : (rowS l)[3 * k + i]? = (cells3 l[k])[i]? := by
  induction l generalizing k with
  | nil => simp at h
  | cons s l ih =>
    show ((cells3 s).toList ++ rowS l)[3 * k + i]? = _
    have hl : (cells3 s).toList.length = 3 := rfl
    rcases k with _ | k
    · rw [List.getElem?_append_left (by rw [hl]; omega)]
      simp
    · rw [List.getElem?_append_right (by rw [hl]; omega), hl, show 3 * (k + 1) + i - 3 = 3 * k + i by omega, ih k (by simpa using h)]
      simp
theorem RdS.kp {S : Nat → Prop} {w w' : World} {A : Option Addr} {l : List Sh} (h : RdS w A l) (hk : Kp S w w') (hn : ∀ a, A = some a → ¬ S a.block) : RdS w' A l := by
  rcases h with h | ⟨b, o, rfl, hc⟩
  · exact .inl h
  · exact .inr ⟨b, o, rfl, fun j v hv => (hk.cell (p := ⟨b, o + j, none⟩) (World.block_lt_of_cell? w ⟨b, o + j, none⟩ (hc j v hv)) (hn ⟨b, o, none⟩ rfl)).trans (hc j v hv)⟩
theorem RdS.of_own {w : World} {base : Nat} {e : TypeId} {A : Option Addr} {n c : Nat} {l : List Sh} (h : w.ownsRow base e 3 (.slice A n c) n (rowS l)) : RdS w A l := by
  rcases h.2 with ⟨h1, h2⟩ | ⟨g, cap, cur, hv, _⟩
  · left
    have := h.1
    rw [rowS_length] at this
    exact List.eq_nil_of_length_eq_zero (by omega)
  · injection hv with hA
    subst hA
    refine .inr ⟨g, 0, rfl, fun j v hj => ?_⟩
    have := h.cells (g := g) rfl j v hj
    unfold Addr.add at this
    split at this
    · next h0 => simp only [h0, Nat.add_zero]; exact this
    · simpa using this
/-- The three cells of one. -/
theorem RdS.three {w : World} {A : Option Addr} {l : List Sh} {k : Nat} (h : RdS w A l) (hk : k < l.length) : ∃ b o, A = some ⟨b, o, none⟩ ∧ w.cell? ⟨b, o + 3 * k, none⟩ = some (.int .u64 l[k].q) ∧ w.cell? ⟨b, o + 3 * k + 1, none⟩ = some (.bool l[k].last) ∧ w.cell? ⟨b, o + 3 * k + 2, none⟩ = some (.string ⟨l[k].t.toArray⟩) := by
  rcases h with rfl | ⟨b, o, rfl, hc⟩
  · simp at hk
  · exact ⟨b, o, rfl, hc (3 * k + 0) (.int .u64 l[k].q) (rowS_get l k hk 0 (by omega)), by rw [Nat.add_assoc]; exact hc (3 * k + 1) (.bool l[k].last) (rowS_get l k hk 1 (by omega)), by rw [Nat.add_assoc]; exact hc (3 * k + 2) (.string ⟨l[k].t.toArray⟩) (rowS_get l k hk 2 (by omega))⟩

theorem neq_sheet (s t : Sh) (w : World) : (binOp .neq 30 (.agg (cells3 s)) (.agg (cells3 t))).run Tryd.prog w = .ok (.bool (!decide (s = t))) w := by
  have hS : Tryd.prog.underlying 30 = some (.struct (Tryd.prog.fieldsOf 30)) := by kernel_rfl
  have hp : Tryd.prog.stoodInHeld 30 = false := by kernel_rfl
  have u1 := Tryd.underlying22
  have u2 := Tryd.underlying4
  have u3 := Tryd.underlying9
  have a1 := Tryd.isAgg22
  have a2 := Tryd.isAgg4
  have a3 := Tryd.isAgg9
  have z1 := Tryd.sizeOf22
  have z2 := Tryd.sizeOf4
  have z3 := Tryd.sizeOf9
  simp only [cells3]
  rw [run_neq_struct, show (10000 : Nat) = 9999 + 1 from rfl, run_equalIn_agg w 9999 30 _ _ hS hp]
  simp only [Program.fieldsOf, Tryd.underlying30]
  go_simp
  by_cases h : s = t
  · subst h
    simp
  · have h1 : ¬ ((s.q : Int) = t.q ∧ s.last = t.last ∧ s.t = t.t) := fun e => h (Sh.ext' (by omega) e.2.1 e.2.2)
    rw [decide_eq_false h]
    repeat' split
    all_goals first | rfl | (exact absurd ⟨by assumption, by assumption, by assumption⟩ h1)

theorem eql_sheet (s t : Sh) (w : World) : (binOp .eql 30 (.agg (cells3 s)) (.agg (cells3 t))).run Tryd.prog w = .ok (.bool (decide (s = t))) w := by
  have hS : Tryd.prog.underlying 30 = some (.struct (Tryd.prog.fieldsOf 30)) := by kernel_rfl
  have hp : Tryd.prog.stoodInHeld 30 = false := by kernel_rfl
  have u1 := Tryd.underlying22
  have u2 := Tryd.underlying4
  have u3 := Tryd.underlying9
  have a1 := Tryd.isAgg22
  have a2 := Tryd.isAgg4
  have a3 := Tryd.isAgg9
  have z1 := Tryd.sizeOf22
  have z2 := Tryd.sizeOf4
  have z3 := Tryd.sizeOf9
  simp only [cells3]
  rw [run_eql_struct, show (10000 : Nat) = 9999 + 1 from rfl, run_equalIn_agg w 9999 30 _ _ hS hp]
  simp only [Program.fieldsOf, Tryd.underlying30]
  go_simp
  by_cases h : s = t
  · subst h
    simp
  · have h1 : ¬ ((s.q : Int) = t.q ∧ s.last = t.last ∧ s.t = t.t) := fun e => h (Sh.ext' (by omega) e.2.1 e.2.2)
    rw [decide_eq_false h]
    repeat' split
    all_goals first | rfl | (exact absurd ⟨by assumption, by assumption, by assumption⟩ h1)

set_option maxRecDepth 100000 in
set_option maxHeartbeats 1000000 in
/-- Two slices of sheets, compared. -/
theorem same_sheets (A B : Option Addr) (c d : Nat) (l k : List Sh) (w : World) (hl : RdS w A l) (hk : RdS w B k) (hm : l.length ≤ 1048576) (_hm2 : k.length ≤ 1048576) :
    Calls Tryd.prog 33 #[.slice A l.length c, .slice B k.length d] w fun e w' => e = .returned (.bool (decide (l = k))) ∧ Kp (fun _ => False) w w' := by
  have HL := Lib.hid hl
  have HK := Lib.hid hk
  clear hl hk
  by_cases hn : l.length = k.length
  · obtain ⟨n, hnl⟩ : ∃ n, l.length = n := ⟨_, rfl⟩
    rw [← hn, hnl]
    have HN := Lib.hid hnl
    have HN2 := Lib.hid hn
    have hn20 : n ≤ 1048576 := by omega
    clear hn _hm2
    rw [hnl] at hm
    clear hnl
    go_enter Tryd.func33, Tryd.ntmps33
    go_wp2_with fail
    go_loopw [13] (fun s13 wr => ∃ i : Nat, i ≤ n ∧ s13 = .int .i64 i ∧ l.take i = k.take i ∧ Kp (fun _ => False) w wr) (fun s13 _ => n - (intOf s13).toNat)
    case atStart => exact ⟨0, Nat.zero_le _, rfl, by simp, Kp.refl _ _⟩
    case round =>
      obtain ⟨i, hi, rfl, heq, hkp⟩ := hrel
      by_cases hlt : i < n
      · have KW := Lib.hid hkp
        have HE := Lib.hid heq
        have h1 : i < l.length := by have := HN.out; omega
        have h2 : i < k.length := by have := HN.out; have := HN2.out; omega
        have t1 := (HL.out.kp hkp (fun _ _ e => e)).three h1
        have t2 := (HK.out.kp hkp (fun _ _ e => e)).three h2
        obtain ⟨b1, o1, rfl, c10, c11, c12⟩ := t1
        obtain ⟨b2, o2, rfl, c20, c21, c22⟩ := t2
        have hne := neq_sheet l[i] k[i]
        obtain ⟨s, hs⟩ : ∃ s, l[i] = s := ⟨_, rfl⟩
        obtain ⟨t, ht⟩ : ∃ t, k[i] = t := ⟨_, rfl⟩
        rw [hs] at c10 c11 c12 hne
        rw [ht] at c20 c21 c22 hne
        simp only [cells3] at hne
        have HS := Lib.hid hs
        have HT := Lib.hid ht
        have h32 : 3 * i ≤ 3145728 := by omega
        clear hs ht heq hkp
        obtain ⟨p1, hp1⟩ : ∃ p1, o1 + 3 * i = p1 := ⟨_, rfl⟩
        obtain ⟨p2, hp2⟩ : ∃ p2, o2 + 3 * i = p2 := ⟨_, rfl⟩
        rw [hp1] at c10 c11 c12
        rw [hp2] at c20 c21 c22
        have hq1 : o1 + i * 3 = p1 := by omega
        have hq2 : o2 + i * 3 = p2 := by omega
        clear hp1 hp2
        obtain ⟨eq, heq⟩ : ∃ eq, decide (s = t) = eq := ⟨_, rfl⟩
        rw [heq] at hne
        have HQ := Lib.hid heq
        clear heq
        have hsz := Tryd.sizeOf30
        cases eq
        · simp only [Bool.not_false] at hne
          go_wp2_with fail
          go_quiet (fail)
          go_wp2_with fail
          go_ret
          refine ⟨?_, KW.out.drewN _⟩
          have hlk : decide (l = k) = false := by
            apply decide_eq_false
            intro e
            subst e
            have := HQ.out
            rw [← HS.out, ← HT.out] at this
            simp at this
          rw [hlk]
          rfl
        · simp only [Bool.not_true] at hne
          go_wp2_with fail
          go_quiet (fail)
          go_wp2_with fail
          go_roundw
          case rel =>
            refine ⟨i + 1, by omega, by go_num, ?_, KW.out.drewN _⟩
            rw [List.take_succ_eq_append_getElem h1, List.take_succ_eq_append_getElem h2, HE.out, HS.out, HT.out, of_decide_eq_true HQ.out]
          case measure => simp [intOf]; omega
      · go_wp2_with fail
        go_ret
        have e : l = k := by
          rw [List.take_of_length_le (by have := HN.out; omega), List.take_of_length_le (by have := HN.out; have := HN2.out; omega)] at heq
          exact heq
        rw [decide_eq_true e]
        exact ⟨rfl, hkp⟩
  · have hne : ((l.length : Int) != (k.length : Int)) = true := by simp; omega
    have e : decide (l = k) = false := decide_eq_false fun e => hn (by rw [e])
    rw [e]
    generalize l.length = n at *
    generalize k.length = m at *
    clear e hn
    go_enter Tryd.func33, Tryd.ntmps33
    go_wp2_with fail
    go_ret
    exact ⟨rfl, Kp.refl _ _⟩

/-- All texts, and whether there are sheets, none with too much text. -/
def textsL (l : List Sh) : List UInt8 × Bool := if ∀ s ∈ l, s.t.length ≤ 497 then (cat l, decide (l ≠ [])) else ([], false)
theorem cat_le (l : List Sh) (h : ∀ s ∈ l, s.t.length ≤ 497) : (cat l).length ≤ 497 * l.length := by
  induction l with
  | nil => simp [cat]
  | cons s l ih =>
    have h1 := ih fun x hx => h x (List.mem_cons_of_mem _ hx)
    have h2 := h s List.mem_cons_self
    show (s.t ++ cat l).length ≤ _
    rw [List.length_append, List.length_cons]
    omega
theorem new_builder (w : World) : Lib.IsBuilder 83 5 w.heap.size w.heap.size (Lib.byteCells []) (w.alloc (.cells #[.pointer none, .slice none 0 0] 83)) :=
  .inl ⟨Nat.le_refl _, .slice none 0 0, Box.new w _ _, World.ownsRow_nil _ _ _ _, by simp [Value.ownBlock]⟩
theorem builder_alloc {B b : Nat} {bs : List Value} {w : World} (h : Lib.IsBuilder 83 5 B b bs w) (o : Obj) : Lib.IsBuilder 83 5 B b bs (w.alloc o) := by
  rcases h with ⟨h1, v, h2, h3, h4⟩ | ⟨h1, v, h2, h3, h4⟩
  · exact .inl ⟨h1, v, Box.alloc h2 o, h3.alloc o, h4⟩
  · exact .inr ⟨h1, v, Box.alloc h2 o, h3.alloc o, h4⟩

set_option maxRecDepth 100000 in
set_option maxHeartbeats 1000000 in
theorem texts_any (A : Option Addr) (c : Nat) (l : List Sh) (w : World) (hl : RdS w A l) (hm : l.length ≤ 1048576) :
    Calls Tryd.prog 32 #[.slice A l.length c] w fun e w' => e = .returned (.tuple #[.string ⟨(textsL l).1.toArray⟩, .bool (textsL l).2]) ∧ Kp (fun _ => False) w w' := by
  have HL := Lib.hid hl
  clear hl
  have B0 := Lib.hid (new_builder w)
  have K0 := Lib.hid ((Kp.refl (fun _ => False) w).alloc (.cells #[.pointer none, .slice none 0 0] 83))
  have hz : (w.alloc (.cells #[.pointer none, .slice none 0 0] 83)).heap.size = w.heap.size + 1 := by simp
  obtain ⟨n, hnl⟩ : ∃ n, l.length = n := ⟨_, rfl⟩
  have HN := Lib.hid hnl
  rw [hnl] at hm ⊢
  clear hnl
  obtain ⟨w0, hw0⟩ : ∃ w0, w0 = w.heap.size := ⟨_, rfl⟩
  go_enter Tryd.func32, Tryd.ntmps32
  go_wp2_with fail
  go_loopw [9] (fun s9 wr => ∃ i : Nat, i ≤ n ∧ s9 = .int .i64 i ∧ (∀ s ∈ l.take i, s.t.length ≤ 497) ∧ Lib.IsBuilder 83 5 w.heap.size w.heap.size (Lib.byteCells (cat (l.take i))) wr ∧ Kp (fun _ => False) w wr ∧ w.heap.size < wr.heap.size) (fun s9 _ => n - (intOf s9).toNat)
  case atStart => exact ⟨0, Nat.zero_le _, rfl, by simp, by simpa [cat] using B0.out, K0.out, by rw [hz]; omega⟩
  case round =>
    obtain ⟨i, hi, rfl, hall, hbd, hkp, hsz⟩ := hrel
    have BD := Lib.hid hbd
    have KW := Lib.hid hkp
    have HA := Lib.hid hall
    clear hbd hall
    by_cases hlt : i < n
    · have h1 : i < l.length := by have := HN.out; omega
      have t1 := (HL.out.kp hkp (fun _ _ e => e)).three h1
      obtain ⟨b1, o1, rfl, c10, c11, c12⟩ := t1
      obtain ⟨s, hs⟩ : ∃ s, l[i] = s := ⟨_, rfl⟩
      rw [hs] at c10 c11 c12
      have HS := Lib.hid hs
      have h32 : 3 * i ≤ 3145728 := by omega
      obtain ⟨p1, hp1⟩ : ∃ p1, o1 + 3 * i = p1 := ⟨_, rfl⟩
      rw [hp1] at c10 c11 c12
      have hq1 : o1 + i * 3 = p1 := by omega
      clear hs hp1 hkp
      by_cases hlong : 497 < s.t.length
      · have hd : decide ((497 : Int) < s.t.length) = true := by simp; omega
        go_wp2_with fail
        go_ret2
        have e : textsL l = ([], false) := by
          unfold textsL
          rw [if_neg]
          intro h
          have := h l[i] (List.getElem_mem h1)
          rw [HS.out] at this
          omega
        rw [e]
        exact ⟨rfl, KW.out.alloc _⟩
      · have hd : decide ((497 : Int) < s.t.length) = false := by simp; omega
        go_wp2_with fail
        have hb1 := builder_alloc BD.out (.cells #[.int .u64 s.q, .bool s.last, .string ⟨s.t.toArray⟩] 30)
        have hcl := cat_le _ HA.out
        rw [List.length_take] at hcl
        refine (Tryd.Builder_WriteString w.heap.size w.heap.size _ ⟨s.t.toArray⟩ _ hb1 (by
          rw [Lib.byteCells_length]
          have hs : (⟨s.t.toArray⟩ : ByteArray).size = s.t.length := by show s.t.toArray.size = _; simp
          rw [hs]
          omega) (by simp; omega)).mono ?_
        rintro e w2 ⟨rfl, hb2, hbl⟩
        have hcat : Lib.byteCells (cat (l.take i)) ++ Lib.strCells ⟨s.t.toArray⟩ = Lib.byteCells (cat (l.take (i + 1))) := by
          rw [Lib.strCells_eq, ← Lib.byteCells_append, List.take_succ_eq_append_getElem h1, cat_snoc, HS.out]
        rw [hcat] at hb2
        have BD2 := Lib.hid hb2
        have hl2 := hb2.lt
        have K2 := Lib.hid ((KW.out.alloc (.cells #[.int .u64 s.q, .bool s.last, .string ⟨s.t.toArray⟩] 30)).trans_new (Kp.of_below hbl) (fun b e => .inl e))
        clear hb1 hb2 hbl hcat hcl
        go_wp2_with fail
        go_roundw
        case rel =>
          refine ⟨i + 1, by omega, by go_num, ?_, .inr BD2.out, K2.out, hl2⟩
          rw [List.take_succ_eq_append_getElem h1]
          intro x hx
          rcases List.mem_append.1 hx with hx | hx
          · exact HA.out x hx
          · rw [List.mem_singleton] at hx
            rw [hx, HS.out]
            omega
        case measure => simp [intOf]; omega
    · go_wp2_with fail
      refine (Tryd.Builder_String_any w.heap.size w.heap.size _ wr BD.out (by omega)).mono ?_
      rintro e w2 ⟨rfl, hbl⟩
      have K2 := Lib.hid (KW.out.trans_new (Kp.of_below hbl) (fun b e => .inl e))
      clear hbl
      go_wp2_with fail
      go_ret2
      have ht : l.take i = l := List.take_of_length_le (by have := HN.out; omega)
      have hal := HA.out
      rw [ht] at hal ⊢
      have e : textsL l = (cat l, decide (l ≠ [])) := by unfold textsL; rw [if_pos hal]
      have e2 : decide (0 < n) = decide (l ≠ []) := by
        have := HN.out
        cases l with
        | nil => simp at this; subst this; simp
        | cons x r => simp at this; simp; omega
      rw [e, ← e2]
      exact ⟨rfl, K2.out⟩
end Go.Proofs.YtdacjhgjaneeeaaDoor
