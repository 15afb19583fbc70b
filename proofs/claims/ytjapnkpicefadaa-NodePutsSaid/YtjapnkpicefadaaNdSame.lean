/- Whether a node is greater than the statements look at; a node that is the same as another one. No condition. -/
import Derived.Test.YtjapnkpicefadaaNdMem
import Derived.Test.YtjapnkpicefadaaQTk
namespace Go.Proofs.Ytjapnkpicefadaa
open Go.RowKit

def gtB (n : Nd) : Bool := decide ((600 : Int) < n.keys.length) || decide ((600 : Int) < n.vals.length) || decide ((600 : Int) < n.kids.length) || n.keys.any (fun s => decide ((100 : Int) < s.size)) || n.vals.any (fun s => decide ((100 : Int) < s.size))
theorem gtB_no {n : Nd} (h : gtB n = false) : n.keys.length ≤ 600 ∧ n.vals.length ≤ 600 ∧ n.kids.length ≤ 600 ∧ (∀ s ∈ n.keys, s.size ≤ 100) ∧ (∀ s ∈ n.vals, s.size ≤ 100) := by
  simp only [gtB, Bool.or_eq_false_iff, decide_eq_false_iff_not, List.any_eq_false, decide_eq_true_eq] at h
  obtain ⟨⟨⟨⟨h1, h2⟩, h3⟩, h4⟩, h5⟩ := h
  exact ⟨by omega, by omega, by omega, fun s hs => by have := h4 s hs; omega, fun s hs => by have := h5 s hs; omega⟩
theorem any_take {α : Type} {p : α → Bool} {l : List α} {k : Nat} (hk : k < l.length) (h : (l.take k).any p = false) (hx : p l[k] = false) : (l.take (k + 1)).any p = false := by
  rw [take_snoc l k hk, List.any_append, h]
  simp [hx]
theorem any_yes {α : Type} {p : α → Bool} {l : List α} {x : α} (hx : x ∈ l) (h : p x = true) : l.any p = true := List.any_eq_true.2 ⟨x, hx, h⟩
set_option maxRecDepth 100000 in
set_option maxHeartbeats 2000000 in
theorem ngreat_any (n : Nd) (p : Pl) (w : World) (h : NdR w n p) :
    Calls Try.prog 5 #[.agg (ncs n p)] w fun e w' => e = .returned (.bool (gtB n)) ∧ Kp (fun _ => False) w w' := by
  obtain ⟨W, hW, b0, k0⟩ : ∃ W, W = w.alloc (.cells (ncs n p) 27) ∧ Box W w.heap.size 27 (ncs n p) ∧ Kp (fun _ => False) w W := ⟨_, rfl, Box.new w _ _, (Kp.refl _ w).alloc _⟩
  have HW := Lib.hid hW
  have K0 := Lib.hid k0
  have HR := Lib.hid (h.still k0)
  have y1 : W.cell? ⟨w.heap.size, 1, none⟩ = some (.slice p.k n.keys.length p.ck) := b0.cell 1
  have y2 : W.cell? ⟨w.heap.size, 2, none⟩ = some (.slice p.v n.vals.length p.cv) := b0.cell 2
  have y3 : W.cell? ⟨w.heap.size, 3, none⟩ = some (.slice p.c n.kids.length p.cc) := b0.cell 3
  have hlk : n.keys.length ≤ 9223372036854775807 := by have := h.lk; unfold maxLen at this; omega
  have hlv : n.vals.length ≤ 9223372036854775807 := by have := h.lv; unfold maxLen at this; omega
  clear hW b0 k0 h
  rcases h1 : decide ((600 : Int) < n.keys.length) with _ | _
  · rcases h2 : decide ((600 : Int) < n.vals.length) with _ | _
    · rcases h3 : decide ((600 : Int) < n.kids.length) with _ | _
      · have HG1 := Lib.hid h1
        have HG2 := Lib.hid h2
        have HG3 := Lib.hid h3
        go_enter Try.func5, Try.ntmps5
        go_upto_region 1 with fail
        rw [← HW.out]
        go_upto_region 4 with fail
        clear h1 h2 h3
        go_loop [3] (fun sv => ∃ k : Nat, k ≤ n.keys.length ∧ sv = .int .i64 k ∧ (n.keys.take k).any (fun s => decide ((100 : Int) < s.size)) = false) (fun sv => n.keys.length - (Go.RowKit.intOf sv).toNat)
        case atStart => exact ⟨0, Nat.zero_le _, rfl, rfl⟩
        case round =>
          obtain ⟨k, hk, rfl, ht⟩ := hrel
          have HT := Lib.hid ht
          clear ht
          by_cases hlt : k < n.keys.length
          · obtain ⟨x, hx⟩ : ∃ x, n.keys[k]? = some x := ⟨_, List.getElem?_eq_getElem hlt⟩
            obtain ⟨b, o, hA, y⟩ := HR.out.k.at (sts_get hx)
            rw [hA] at y1
            have HX := Lib.hid hx
            clear hx hA
            rcases hb : decide ((100 : Int) < x.size) with _ | _
            · go_wp2_with fail
              go_round
              case rel =>
                refine ⟨k + 1, by omega, by go_num, any_take hlt HT.out ?_⟩
                have := HX.out
                rw [List.getElem?_eq_getElem hlt] at this
                cases this
                exact hb
              case measure => simp [Go.RowKit.intOf]; omega
            · have e : gtB n = true := by
                have : n.keys.any (fun s => decide ((100 : Int) < s.size)) = true := any_yes (List.mem_of_getElem? HX.out) hb
                simp only [gtB, this, Bool.true_or, Bool.or_true]
              have HE := Lib.hid e
              clear e
              go_wp2_with fail
              go_ret
              refine ⟨?_, K0.out⟩
              rw [HE.out]
              rfl
          · obtain rfl : k = n.keys.length := by omega
            have HKK := HT
            clear HT hlt hk
            go_upto_region 9 with fail
            go_loop [4] (fun sv => ∃ k : Nat, k ≤ n.vals.length ∧ sv = .int .i64 k ∧ (n.vals.take k).any (fun s => decide ((100 : Int) < s.size)) = false) (fun sv => n.vals.length - (Go.RowKit.intOf sv).toNat)
            case atStart => exact ⟨0, Nat.zero_le _, rfl, rfl⟩
            case round =>
              obtain ⟨k, hk, rfl, ht⟩ := hrel
              have HT := Lib.hid ht
              clear ht
              by_cases hlt : k < n.vals.length
              · obtain ⟨x, hx⟩ : ∃ x, n.vals[k]? = some x := ⟨_, List.getElem?_eq_getElem hlt⟩
                obtain ⟨b, o, hA, y⟩ := HR.out.v.at (sts_get hx)
                rw [hA] at y2
                have HX := Lib.hid hx
                clear hx hA
                rcases hb : decide ((100 : Int) < x.size) with _ | _
                · go_wp2_with fail
                  go_round
                  case rel =>
                    refine ⟨k + 1, by omega, by go_num, any_take hlt HT.out ?_⟩
                    have := HX.out
                    rw [List.getElem?_eq_getElem hlt] at this
                    cases this
                    exact hb
                  case measure => simp [Go.RowKit.intOf]; omega
                · have e : gtB n = true := by
                    have : n.vals.any (fun s => decide ((100 : Int) < s.size)) = true := any_yes (List.mem_of_getElem? HX.out) hb
                    simp only [gtB, this, Bool.or_true]
                  have HE := Lib.hid e
                  clear e
                  go_wp2_with fail
                  go_ret
                  refine ⟨?_, K0.out⟩
                  rw [HE.out]
                  rfl
              · obtain rfl : k = n.vals.length := by omega
                have HV := HT
                have e : gtB n = false := by
                  have h1 := HKK.out
                  have h2 := HV.out
                  rw [List.take_length] at h1 h2
                  have h3 := HG1.out
                  have h4 := HG2.out
                  have h5 := HG3.out
                  simp only [gtB, h1, h2, h3, h4, h5, Bool.or_false]
                have HE := Lib.hid e
                clear e
                go_wp2_with fail
                go_ret
                refine ⟨?_, K0.out⟩
                rw [HE.out]
                rfl
      · have e : gtB n = true := by simp only [gtB, h1, h2, h3, Bool.true_or, Bool.or_true, Bool.false_or]
        rw [e]
        clear e
        go_enter Try.func5, Try.ntmps5
        go_upto_region 1 with fail
        rw [← HW.out]
        go_wp2_with fail
        go_ret
        exact ⟨rfl, K0.out⟩
    · have e : gtB n = true := by simp only [gtB, h1, h2, Bool.true_or, Bool.or_true]
      rw [e]
      clear e
      go_enter Try.func5, Try.ntmps5
      go_upto_region 1 with fail
      rw [← HW.out]
      go_wp2_with fail
      go_ret
      exact ⟨rfl, K0.out⟩
  · have e : gtB n = true := by simp only [gtB, h1, Bool.true_or]
    rw [e]
    clear e
    go_enter Try.func5, Try.ntmps5
    go_upto_region 1 with fail
    rw [← HW.out]
    go_wp2_with fail
    go_ret
    exact ⟨rfl, K0.out⟩

set_option maxRecDepth 100000 in
set_option maxHeartbeats 4000000 in
theorem same_true (n : Nd) (p q : Pl) (w : World) (h : NdR w n p) (h' : NdR w n q) :
    Calls Try.prog 20 #[.agg (ncs n p), .agg (ncs n q)] w fun e w' => e = .returned (.bool true) ∧ Kp (fun _ => False) w w' := by
  obtain ⟨W, hW, b0, b1, k0⟩ : ∃ W, W = (w.alloc (.cells (ncs n p) 36)).alloc (.cells (ncs n q) 36) ∧ Box W w.heap.size 36 (ncs n p) ∧ Box W (w.heap.size + 1) 36 (ncs n q) ∧ Kp (fun _ => False) w W := ⟨_, rfl, (Box.new w _ _).alloc _, by simpa using Box.new (w.alloc (.cells (ncs n p) 36)) 36 (ncs n q), ((Kp.refl _ w).alloc _).alloc _⟩
  have HW := Lib.hid hW
  have HP := Lib.hid (h.still k0)
  have HQ := Lib.hid (h'.still k0)
  have HF : Hid (∀ v, Kp (fun _ => False) W v → v.cell? ⟨w.heap.size, 0, none⟩ = some (.bool n.leaf) ∧ v.cell? ⟨w.heap.size, 1, none⟩ = some (.slice p.k n.keys.length p.ck) ∧ v.cell? ⟨w.heap.size, 2, none⟩ = some (.slice p.v n.vals.length p.cv) ∧ v.cell? ⟨w.heap.size, 3, none⟩ = some (.slice p.c n.kids.length p.cc) ∧ v.cell? ⟨w.heap.size + 1, 0, none⟩ = some (.bool n.leaf) ∧ v.cell? ⟨w.heap.size + 1, 1, none⟩ = some (.slice q.k n.keys.length q.ck) ∧ v.cell? ⟨w.heap.size + 1, 2, none⟩ = some (.slice q.v n.vals.length q.cv) ∧ v.cell? ⟨w.heap.size + 1, 3, none⟩ = some (.slice q.c n.kids.length q.cc)) := Lib.hid fun v hv =>
    ⟨(b0.kp hv (fun h => h)).cell 0, (b0.kp hv (fun h => h)).cell 1, (b0.kp hv (fun h => h)).cell 2, (b0.kp hv (fun h => h)).cell 3, (b1.kp hv (fun h => h)).cell 0, (b1.kp hv (fun h => h)).cell 1, (b1.kp hv (fun h => h)).cell 2, (b1.kp hv (fun h => h)).cell 3⟩
  have K0 := Lib.hid k0
  have hlk : n.keys.length ≤ 9223372036854775807 := by have := h.lk; unfold maxLen at this; omega
  have hlv : n.vals.length ≤ 9223372036854775807 := by have := h.lv; unfold maxLen at this; omega
  have hlc : n.kids.length ≤ 9223372036854775807 := by have := h.lc; unfold maxLen at this; omega
  obtain ⟨y0, y1, y2, y3, z0, z1, z2, z3⟩ := HF.out W (Kp.refl _ _)
  have e0 : (n.leaf != n.leaf) = false := by simp
  clear hW b0 b1 k0 h h'
  go_enter Try.func20, Try.ntmps20
  go_upto_region 1 with fail
  rw [← HW.out]
  go_upto_region 4 with fail
  clear y0 y1 y2 y3 z0 z1 z2 z3 e0
  go_loopw [5] (fun sv wr => ∃ k : Nat, k ≤ n.keys.length ∧ sv = .int .i64 k ∧ Kp (fun _ => False) W wr) (fun sv _ => n.keys.length - (Go.RowKit.intOf sv).toNat)
  case atStart => exact ⟨0, Nat.zero_le _, rfl, Kp.refl _ _⟩
  case round =>
    obtain ⟨k, hk, rfl, hkp⟩ := hrel
    have HK5 := Lib.hid hkp
    clear hkp
    obtain ⟨_, y, _, _, _, z, _, _⟩ := HF.out wr HK5.out
    by_cases hlt : k < n.keys.length
    · obtain ⟨x, hx⟩ : ∃ x, n.keys[k]? = some x := ⟨_, List.getElem?_eq_getElem hlt⟩
      obtain ⟨b, o, hA, u1⟩ := (HP.out.still HK5.out).k.at (sts_get hx)
      obtain ⟨b', o', hB, u2⟩ := (HQ.out.still HK5.out).k.at (sts_get hx)
      rw [hA] at y
      rw [hB] at z
      clear hx hA hB
      go_wp2_with fail
      go_quiet (fail)
      have K2 := Lib.hid ((HK5.out).drewN nq)
      clear y z u1 u2
      go_wp2_with fail
      go_roundw
      case rel => exact ⟨k + 1, by omega, by go_num, K2.out⟩
      case measure => simp [Go.RowKit.intOf]; omega
    · obtain ⟨w5, hwe⟩ : ∃ v, v = wr := ⟨_, rfl⟩
      subst hwe
      go_upto_region 9 with fail
      clear y z hlt hk
      go_loopw [6] (fun sv wr => ∃ k : Nat, k ≤ n.vals.length ∧ sv = .int .i64 k ∧ Kp (fun _ => False) W wr) (fun sv _ => n.vals.length - (Go.RowKit.intOf sv).toNat)
      case atStart => exact ⟨0, Nat.zero_le _, rfl, HK5.out⟩
      case round =>
        obtain ⟨k, hk, rfl, hkp⟩ := hrel
        have HK6 := Lib.hid hkp
        clear hkp
        obtain ⟨_, _, y, _, _, _, z, _⟩ := HF.out wr HK6.out
        by_cases hlt : k < n.vals.length
        · obtain ⟨x, hx⟩ : ∃ x, n.vals[k]? = some x := ⟨_, List.getElem?_eq_getElem hlt⟩
          obtain ⟨b, o, hA, u1⟩ := (HP.out.still HK6.out).v.at (sts_get hx)
          obtain ⟨b', o', hB, u2⟩ := (HQ.out.still HK6.out).v.at (sts_get hx)
          rw [hA] at y
          rw [hB] at z
          clear hx hA hB
          go_wp2_with fail
          go_quiet (fail)
          have K2 := Lib.hid ((HK6.out).drewN nq)
          clear y z u1 u2
          go_wp2_with fail
          go_roundw
          case rel => exact ⟨k + 1, by omega, by go_num, K2.out⟩
          case measure => simp [Go.RowKit.intOf]; omega
        · obtain ⟨w6, hwe⟩ : ∃ v, v = wr := ⟨_, rfl⟩
          subst hwe
          go_upto_region 14 with fail
          clear y z hlt hk
          go_loopw [7] (fun sv wr => ∃ k : Nat, k ≤ n.kids.length ∧ sv = .int .i64 k ∧ Kp (fun _ => False) W wr) (fun sv _ => n.kids.length - (Go.RowKit.intOf sv).toNat)
          case atStart => exact ⟨0, Nat.zero_le _, rfl, HK6.out⟩
          case round =>
            obtain ⟨k, hk, rfl, hkp⟩ := hrel
            have HK7 := Lib.hid hkp
            clear hkp
            obtain ⟨_, _, _, y, _, _, _, z⟩ := HF.out wr HK7.out
            by_cases hlt : k < n.kids.length
            · obtain ⟨x, hx⟩ : ∃ x, n.kids[k]? = some x := ⟨_, List.getElem?_eq_getElem hlt⟩
              obtain ⟨b, o, hA, u1⟩ := (HP.out.still HK7.out).c.at (its_get hx)
              obtain ⟨b', o', hB, u2⟩ := (HQ.out.still HK7.out).c.at (its_get hx)
              rw [hA] at y
              rw [hB] at z
              clear hx hA hB
              go_wp2_with fail
              go_quiet (fail)
              have K2 := Lib.hid ((HK7.out).drewN nq)
              clear y z u1 u2
              go_wp2_with fail
              go_roundw
              case rel => exact ⟨k + 1, by omega, by go_num, K2.out⟩
              case measure => simp [Go.RowKit.intOf]; omega
            · obtain ⟨w7, hwe⟩ : ∃ v, v = wr := ⟨_, rfl⟩
              subst hwe
              go_wp2_with fail
              go_ret
              exact ⟨rfl, K0.out.trans HK7.out⟩
end Go.Proofs.Ytjapnkpicefadaa
