/- How a node lies in memory: a slice that reads as values, a node's four cells. No condition. -/
import Derived.Test.YtjapnkpicefadaaNdMath
import Derived.Test.YtjapnkpicefadaaPkB
import Derived.Test.YtjapnkpicefadaaTk
import Derived.Deep.DeepMust
namespace Go.Proofs.Ytjapnkpicefadaa
open Go.RowKit

/-- A slice at the address A reads as these values, a cell each. -/
def RdV (w : World) (A : Option Addr) (xs : List Value) : Prop :=
  xs = [] ∨ ∃ b o, A = some ⟨b, o, none⟩ ∧ ∀ j u, xs[j]? = some u → w.cell? ⟨b, o + j, none⟩ = some u
theorem RdV.nil (w : World) (A : Option Addr) : RdV w A [] := .inl rfl
theorem RdV.still {w w' : World} {A : Option Addr} {xs : List Value} (h : RdV w A xs) (hk : Kp (fun _ => False) w w') : RdV w' A xs := by
  rcases h with h | ⟨b, o, rfl, hc⟩
  · exact .inl h
  · exact .inr ⟨b, o, rfl, fun j u hu => (hk.cell (p := ⟨b, o + j, none⟩) (World.block_lt_of_cell? w ⟨b, o + j, none⟩ (hc j u hu)) (fun h => h)).trans (hc j u hu)⟩
theorem RdV.at {w : World} {A : Option Addr} {xs : List Value} (h : RdV w A xs) {k : Nat} {u : Value} (hk : xs[k]? = some u) : ∃ b o, A = some ⟨b, o, none⟩ ∧ w.cell? ⟨b, o + k, none⟩ = some u := by
  rcases h with rfl | ⟨b, o, rfl, hc⟩
  · cases hk
  · exact ⟨b, o, rfl, hc k u hk⟩
theorem RdV.of_own {w : World} {base : Nat} {e : TypeId} {A : Option Addr} {c n : Nat} {xs : List Value} (h : w.ownsRow base e 1 (.slice A n c) n xs) : RdV w A xs := by
  rcases h.2 with ⟨h1, h2⟩ | ⟨g, cap, cur, hv, _⟩
  · left
    have := h.1
    exact List.eq_nil_of_length_eq_zero (by omega)
  · injection hv with hA
    subst hA
    refine .inr ⟨g, 0, rfl, fun j u hu => ?_⟩
    have := h.cells (g := g) rfl j u hu
    unfold Addr.add at this
    split at this
    · next h0 => simp only [h0, Nat.add_zero]; exact this
    · simpa using this
/-- Texts, numbers, as cells. -/
def sts (l : List ByteArray) : List Value := l.map .string
def its (l : List Int) : List Value := l.map (.int .i64 ·)
theorem sts_len (l : List ByteArray) : (sts l).length = l.length := by simp [sts]
theorem its_len (l : List Int) : (its l).length = l.length := by simp [its]
theorem sts_get {l : List ByteArray} {k : Nat} {x : ByteArray} (h : l[k]? = some x) : (sts l)[k]? = some (.string x) := by simp [sts, h]
theorem its_get {l : List Int} {k : Nat} {x : Int} (h : l[k]? = some x) : (its l)[k]? = some (.int .i64 x) := by simp [its, h]
theorem sts_one (l : List ByteArray) : ∀ u ∈ sts l, u.oneCell' = true := fun u hu => by
  obtain ⟨_, _, rfl⟩ := List.mem_map.1 hu
  rfl
theorem its_one (l : List Int) : ∀ u ∈ its l, u.oneCell' = true := fun u hu => by
  obtain ⟨_, _, rfl⟩ := List.mem_map.1 hu
  rfl
/-- Where a node's three slices lie. -/
structure Pl where
  k : Option Addr
  v : Option Addr
  c : Option Addr
  ck : Nat
  cv : Nat
  cc : Nat
def ncs (n : Nd) (p : Pl) : Array Value := #[.bool n.leaf, .slice p.k n.keys.length p.ck, .slice p.v n.vals.length p.cv, .slice p.c n.kids.length p.cc]
structure NdR (w : World) (n : Nd) (p : Pl) : Prop where
  k : RdV w p.k (sts n.keys)
  v : RdV w p.v (sts n.vals)
  c : RdV w p.c (its n.kids)
  lk : n.keys.length ≤ p.ck ∧ p.ck ≤ maxLen
  lv : n.vals.length ≤ p.cv ∧ p.cv ≤ maxLen
  lc : n.kids.length ≤ p.cc ∧ p.cc ≤ maxLen
theorem NdR.still {w w' : World} {n : Nd} {p : Pl} (h : NdR w n p) (hk : Kp (fun _ => False) w w') : NdR w' n p := ⟨h.k.still hk, h.v.still hk, h.c.still hk, h.lk, h.lv, h.lc⟩
def pl0 : Pl := ⟨none, none, none, 0, 0, 0⟩
theorem NdR.zero (w : World) : NdR w nd0 pl0 := ⟨.nil _ _, .nil _ _, .nil _ _, by simp [nd0, pl0, maxLen], by simp [nd0, pl0, maxLen], by simp [nd0, pl0, maxLen]⟩
theorem ncs_one (n : Nd) (p : Pl) : ∀ u ∈ (ncs n p).toList, u.oneCell' = true := fun u hu => by
  simp only [ncs, List.mem_cons, List.not_mem_nil, or_false] at hu
  rcases hu with rfl | rfl | rfl | rfl <;> rfl

set_option maxHeartbeats 400000 in
theorem may_any (kw vw : Int) (w : World) :
    Calls Try.prog 7 #[.agg #[.int .i64 kw, .int .i64 vw]] w fun e w' => e = .returned (.bool (shB kw vw)) ∧ Kp (fun _ => False) w w' := by
  rcases hb : shB kw vw with _ | _
  · have hn : ¬ (1 ≤ kw ∧ kw ≤ 64 ∧ 0 ≤ vw ∧ vw ≤ 64) := fun h => by rw [shB_iff.2 h] at hb; cases hb
    clear hb
    by_cases h1 : 1 ≤ kw
    · by_cases h2 : kw ≤ 64
      · by_cases h3 : 0 ≤ vw
        · have h4 : ¬ vw ≤ 64 := fun h => hn ⟨h1, h2, h3, h⟩
          clear hn
          go_enter Try.func7, Try.ntmps7
          go_wp2
          go_ret
          exact ⟨rfl, (Kp.refl _ w).alloc _⟩
        · clear hn
          go_enter Try.func7, Try.ntmps7
          go_wp2
          go_ret
          exact ⟨rfl, (Kp.refl _ w).alloc _⟩
      · clear hn
        go_enter Try.func7, Try.ntmps7
        go_wp2
        go_ret
        exact ⟨rfl, (Kp.refl _ w).alloc _⟩
    · clear hn
      go_enter Try.func7, Try.ntmps7
      go_wp2
      go_ret
      exact ⟨rfl, (Kp.refl _ w).alloc _⟩
  · obtain ⟨h1, h2, h3, h4⟩ := shB_iff.1 hb
    clear hb
    go_enter Try.func7, Try.ntmps7
    go_wp2
    go_ret
    exact ⟨rfl, (Kp.refl _ w).alloc _⟩

set_option maxHeartbeats 400000 in
theorem right_any (kw vw : Int) (w : World) :
    Calls Try.prog 8 #[.agg #[.int .i64 kw, .int .i64 vw]] w fun e w' => e = .returned (.bool (shB kw vw)) ∧ Kp (fun _ => False) w w' := by
  rcases hb : shB kw vw with _ | _
  · have hn : ¬ (1 ≤ kw ∧ kw ≤ 64 ∧ 0 ≤ vw ∧ vw ≤ 64) := fun h => by rw [shB_iff.2 h] at hb; cases hb
    clear hb
    by_cases h1 : 0 < kw
    · by_cases h2 : kw < 65
      · by_cases h3 : 0 ≤ vw
        · have h4 : ¬ vw < 65 := fun h => hn ⟨by omega, by omega, h3, by omega⟩
          clear hn
          go_enter Try.func8, Try.ntmps8
          go_wp2
          go_ret
          exact ⟨rfl, (Kp.refl _ w).alloc _⟩
        · clear hn
          go_enter Try.func8, Try.ntmps8
          go_wp2
          go_ret
          exact ⟨rfl, (Kp.refl _ w).alloc _⟩
      · clear hn
        go_enter Try.func8, Try.ntmps8
        go_wp2
        go_ret
        exact ⟨rfl, (Kp.refl _ w).alloc _⟩
    · clear hn
      go_enter Try.func8, Try.ntmps8
      go_wp2
      go_ret
      exact ⟨rfl, (Kp.refl _ w).alloc _⟩
  · obtain ⟨h1, h2, h3, h4⟩ := shB_iff.1 hb
    have g1 : 0 < kw := by omega
    have g2 : kw < 65 := by omega
    have g4 : vw < 65 := by omega
    clear hb h1 h2 h4
    go_enter Try.func8, Try.ntmps8
    go_wp2
    go_ret
    exact ⟨rfl, (Kp.refl _ w).alloc _⟩

set_option maxHeartbeats 400000 in
theorem cap_any (kw vw : Int) (w : World) :
    Calls Try.prog 9 #[.agg #[.int .i64 kw, .int .i64 vw]] w fun e w' => e = .returned (.int .i64 (capZ kw vw)) ∧ Kp (fun _ => False) w w' := by
  rcases hb : shB kw vw with _ | _
  · have hc : capZ kw vw = 0 := by simp [capZ, hb]
    rw [hc]
    clear hc
    go_enter Try.func9, Try.ntmps9
    go_wp2_with fail
    refine (may_any _ _ _).mono ?_
    rintro e w1 ⟨rfl, k1⟩
    have K1 := Lib.hid k1
    clear k1
    rw [hb]
    go_wp2_with fail
    go_ret
    exact ⟨rfl, ((Kp.refl _ w).alloc _).trans K1.out⟩
  · obtain ⟨h1, h2, h3, h4⟩ := shB_iff.1 hb
    have hc : capZ kw vw = 508 / (kw + vw) := by simp [capZ, hb]
    rw [hc]
    obtain ⟨W, hW, b0, k0⟩ : ∃ W, W = w.alloc (.cells #[.int .i64 kw, .int .i64 vw] 30) ∧ Box W w.heap.size 30 #[.int .i64 kw, .int .i64 vw] ∧ Kp (fun _ => False) w W := ⟨_, rfl, Box.new w _ _, (Kp.refl _ w).alloc _⟩
    have HW := Lib.hid hW
    have B0 := Lib.hid b0
    have K0 := Lib.hid k0
    have HB := Lib.hid hb
    have y0 := b0.cell 0
    have y1 := b0.cell 1
    simp at y0 y1
    clear hc hb b0 k0 hW
    go_enter Try.func9, Try.ntmps9
    go_upto_region 1 with fail
    rw [← HW.out]
    go_wp2_with fail
    refine (may_any _ _ _).mono ?_
    rintro e w1 ⟨rfl, k1⟩
    have K1 := Lib.hid k1
    have z0 := (B0.out.kp k1 (fun h => h)).cell 0
    have z1 := (B0.out.kp k1 (fun h => h)).cell 1
    simp at z0 z1
    clear k1 y0 y1
    rw [HB.out]
    go_wp2_with fail
    go_ret
    exact ⟨rfl, K0.out.trans K1.out⟩

set_option maxHeartbeats 400000 in
theorem fan_any (kw vw : Int) (w : World) :
    Calls Try.prog 11 #[.agg #[.int .i64 kw, .int .i64 vw]] w fun e w' => e = .returned (.int .i64 (fanZ kw vw)) ∧ Kp (fun _ => False) w w' := by
  rcases hb : shB kw vw with _ | _
  · have hc : fanZ kw vw = 0 := by simp [fanZ, hb]
    rw [hc]
    clear hc
    go_enter Try.func11, Try.ntmps11
    go_wp2_with fail
    refine (may_any _ _ _).mono ?_
    rintro e w1 ⟨rfl, k1⟩
    have K1 := Lib.hid k1
    clear k1
    rw [hb]
    go_wp2_with fail
    go_ret
    exact ⟨rfl, ((Kp.refl _ w).alloc _).trans K1.out⟩
  · obtain ⟨h1, h2, h3, h4⟩ := shB_iff.1 hb
    have hc : fanZ kw vw = (508 + kw) / (kw + 2) := by simp [fanZ, hb]
    rw [hc]
    obtain ⟨W, hW, b0, k0⟩ : ∃ W, W = w.alloc (.cells #[.int .i64 kw, .int .i64 vw] 30) ∧ Box W w.heap.size 30 #[.int .i64 kw, .int .i64 vw] ∧ Kp (fun _ => False) w W := ⟨_, rfl, Box.new w _ _, (Kp.refl _ w).alloc _⟩
    have HW := Lib.hid hW
    have B0 := Lib.hid b0
    have K0 := Lib.hid k0
    have HB := Lib.hid hb
    have y0 := b0.cell 0
    have y1 := b0.cell 1
    simp at y0 y1
    clear hc hb b0 k0 hW
    go_enter Try.func11, Try.ntmps11
    go_upto_region 1 with fail
    rw [← HW.out]
    go_wp2_with fail
    refine (may_any _ _ _).mono ?_
    rintro e w1 ⟨rfl, k1⟩
    have K1 := Lib.hid k1
    have z0 := (B0.out.kp k1 (fun h => h)).cell 0
    simp at z0
    clear k1 y0 y1
    rw [HB.out]
    go_wp2_with fail
    go_ret
    exact ⟨rfl, K0.out.trans K1.out⟩
end Go.Proofs.Ytjapnkpicefadaa
