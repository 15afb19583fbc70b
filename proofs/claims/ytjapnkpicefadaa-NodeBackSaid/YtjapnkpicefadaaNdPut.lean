/- What Put answers: a node's page, or none. No condition. -/
import Derived.Test.YtjapnkpicefadaaNdAsk
import Derived.Test.YtjapnkpicefadaaNdZeros
namespace Go.Proofs.Ytjapnkpicefadaa
open Go.RowKit

/-- What is put of the first k entries. -/
def preL (n : Nd) (k : Nat) : List UInt8 := if n.leaf = true then entL (n.keys.take k) (n.vals.take k) else keyL (n.keys.take k)
theorem preL_all {n : Nd} (h : n.leaf = true → n.vals.length = n.keys.length) : preL n n.keys.length = bodyL n := by
  unfold preL bodyL
  split
  · next hl => rw [List.take_length, ← h hl, List.take_length]
  · rw [List.take_length]
theorem preL_leaf {n : Nd} (hl : n.leaf = true) {k : Nat} {x y : ByteArray} (hx : n.keys[k]? = some x) (hy : n.vals[k]? = some y) : preL n (k + 1) = preL n k ++ byt x ++ byt y := by
  obtain ⟨h1, rfl⟩ := List.getElem?_eq_some_iff.1 hx
  obtain ⟨h2, rfl⟩ := List.getElem?_eq_some_iff.1 hy
  unfold preL
  rw [if_pos hl, if_pos hl, take_snoc _ _ h1, take_snoc _ _ h2, entL_snoc _ _ _ _ (by simp; omega), List.append_assoc]
theorem preL_inner {n : Nd} (hl : n.leaf = false) {k : Nat} {x : ByteArray} (hx : n.keys[k]? = some x) : preL n (k + 1) = preL n k ++ byt x := by
  obtain ⟨h1, rfl⟩ := List.getElem?_eq_some_iff.1 hx
  unfold preL
  rw [hl, if_neg Bool.false_ne_true, if_neg Bool.false_ne_true, take_snoc _ _ h1]
  simp only [keyL, List.flatMap_append, List.flatMap_cons, List.flatMap_nil, List.append_nil]
theorem preL_len {kw vw : Int} {n : Nd} (h : okB kw vw n = true) (k : Nat) : (preL n k).length ≤ 65024 := by
  have hk := (okB_keys h).1
  unfold preL
  split
  · next hl =>
    obtain ⟨hs, h1, h2, h3, h4, h5⟩ := okB_leaf h hl
    rw [entL_len (q := kw.toNat) (u := vw.toNat) _ _ (fun x hx => by have := keysB_sizes h5 x (List.mem_of_mem_take hx); omega) (fun x hx => by have := h4 x (List.mem_of_mem_take hx); omega) (by simp; omega)]
    have e1 : (n.keys.take k).length ≤ 508 := by simp; omega
    exact Nat.le_trans (Nat.mul_le_mul e1 (show kw.toNat + vw.toNat ≤ 128 by omega)) (by decide)
  · next hl =>
    have hl' : n.leaf = false := by simpa using hl
    obtain ⟨hs, _, h2, h3, h4, h6, h5⟩ := okB_inner h hl'
    rw [keyL_len (q := kw.toNat) _ (fun x hx => by have := keysB_sizes h5 x (List.mem_of_mem_take hx); omega)]
    have e1 : (n.keys.take k).length ≤ 508 := by simp; omega
    exact Nat.le_trans (Nat.mul_le_mul e1 (show kw.toNat ≤ 128 by omega)) (by decide)
theorem kidL_snoc {l : List Int} {k c : Nat} (hx : l[k]? = some (c : Int)) : kidL (l.take (k + 1)) = kidL (l.take k) ++ beN 2 c := by
  obtain ⟨h1, h2⟩ := List.getElem?_eq_some_iff.1 hx
  rw [take_snoc _ _ h1, h2]
  simp only [kidL, List.flatMap_append, List.flatMap_cons, List.flatMap_nil, List.append_nil, Int.toNat_natCast]
theorem putS0 (l s : List UInt8) : putS l 0 s = l ++ s := by simp [putS]
theorem pk_mk {F : Nat → Prop} {w : World} {b : Nat} {l : List UInt8} (h : Pkr F w b l 0) : Pk F w (.pointer (some ⟨b, 0, none⟩)) l 0 := ⟨fun e => absurd rfl e, .inr ⟨b, rfl, h⟩⟩
theorem pk_un {F : Nat → Prop} {w : World} {b : Nat} {l : List UInt8} (h : Pk F w (.pointer (some ⟨b, 0, none⟩)) l 0) : Pkr F w b l 0 := by
  obtain ⟨_, ⟨h, _⟩ | ⟨b', e, h⟩⟩ := h
  · cases h
  · cases e
    exact h

set_option maxRecDepth 100000 in
set_option maxHeartbeats 2000000 in
theorem put_no (kw vw : Int) (n : Nd) (p : Pl) (w : World) (h : NdR w n p) (hok : okB kw vw n = false) :
    Calls Try.prog 13 #[.agg #[.int .i64 kw, .int .i64 vw], .agg (ncs n p)] w fun e w' => e = .returned (.tuple #[.slice none 0 0, .int .i64 2]) ∧ Kp (fun _ => False) w w' := by
  obtain ⟨W, hW, b0, b1, k0⟩ : ∃ W, W = (w.alloc (.cells #[.int .i64 kw, .int .i64 vw] 30)).alloc (.cells (ncs n p) 36) ∧ Box W w.heap.size 30 #[.int .i64 kw, .int .i64 vw] ∧ Box W (w.heap.size + 1) 36 (ncs n p) ∧ Kp (fun _ => False) w W := ⟨_, rfl, (Box.new w _ _).alloc _, by simpa using Box.new (w.alloc (.cells #[.int .i64 kw, .int .i64 vw] 30)) 36 (ncs n p), ((Kp.refl _ w).alloc _).alloc _⟩
  have HW := Lib.hid hW
  have K0 := Lib.hid k0
  have HF : Hid (∀ v, Kp (fun _ => False) W v → v.cell? ⟨w.heap.size, 0, none⟩ = some (.int .i64 kw) ∧ v.cell? ⟨w.heap.size, 1, none⟩ = some (.int .i64 vw) ∧ v.cell? ⟨w.heap.size + 1, 0, none⟩ = some (.bool n.leaf) ∧ v.cell? ⟨w.heap.size + 1, 1, none⟩ = some (.slice p.k n.keys.length p.ck) ∧ v.cell? ⟨w.heap.size + 1, 2, none⟩ = some (.slice p.v n.vals.length p.cv) ∧ v.cell? ⟨w.heap.size + 1, 3, none⟩ = some (.slice p.c n.kids.length p.cc)) := Lib.hid fun v hv =>
    ⟨(b0.kp hv (fun h => h)).cell 0, (b0.kp hv (fun h => h)).cell 1, (b1.kp hv (fun h => h)).cell 0, (b1.kp hv (fun h => h)).cell 1, (b1.kp hv (fun h => h)).cell 2, (b1.kp hv (fun h => h)).cell 3⟩
  have HS : Hid (∀ v, Kp (fun _ => False) W v → Box v w.heap.size 30 #[.int .i64 kw, .int .i64 vw]) := Lib.hid fun v hv => b0.kp hv (fun h => h)
  have HR : Hid (∀ v, Kp (fun _ => False) W v → NdR v n p) := Lib.hid fun v hv => h.still (k0.trans hv)
  have HN : Hid (∀ v, Kp (fun _ => False) W v → Box v (w.heap.size + 1) 36 (ncs n p)) := Lib.hid fun v hv => b1.kp hv (fun h => h)
  clear hW b0 b1 k0 h
  rcases hb : shB kw vw with _ | _
  · have HB := Lib.hid hb
    clear hb hok
    go_enter Try.func13, Try.ntmps13
    go_upto_region 1 with fail
    rw [← HW.out]
    obtain ⟨y0, y1, y2, y3, y4, y5⟩ := HF.out W (Kp.refl _ _)
    go_wp2_with fail
    refine (may_any _ _ _).mono ?_
    rintro e w1 ⟨rfl, kk⟩
    have K1 := Lib.hid kk
    clear kk y0 y1 y2 y3 y4 y5
    rw [HB.out]
    obtain ⟨y0, y1, y2, y3, y4, y5⟩ := HF.out w1 K1.out
    go_wp2_with fail
    go_ret2
    exact ⟨rfl, K0.out.trans K1.out⟩
  · have hh : hasB kw vw n = false := by unfold okB at hok; rw [hb] at hok; exact hok
    have HB := Lib.hid hb
    have HH := Lib.hid hh
    clear hb hok hh
    go_enter Try.func13, Try.ntmps13
    go_upto_region 1 with fail
    rw [← HW.out]
    obtain ⟨y0, y1, y2, y3, y4, y5⟩ := HF.out W (Kp.refl _ _)
    go_wp2_with fail
    refine (may_any _ _ _).mono ?_
    rintro e w1 ⟨rfl, kk⟩
    have K1 := Lib.hid kk
    clear kk y0 y1 y2 y3 y4 y5
    rw [HB.out]
    obtain ⟨y0, y1, y2, y3, y4, y5⟩ := HF.out w1 K1.out
    go_wp2_with fail
    refine (has_any kw vw n p _ (HR.out w1 K1.out)).mono ?_
    rintro e w2 ⟨rfl, kk⟩
    have K2 := Lib.hid kk
    clear kk y0 y1 y2 y3 y4 y5
    rw [HH.out]
    go_wp2_with fail
    go_ret2
    exact ⟨rfl, K0.out.trans (K1.out.trans K2.out)⟩

theorem pk_ptr {F : Nat → Prop} {w : World} {v : Value} {l : List UInt8} (h : Pk F w v l 0) : ∃ b, v = .pointer (some ⟨b, 0, none⟩) ∧ Pkr F w b l 0 := by
  obtain ⟨_, ⟨_, h⟩ | ⟨b', e, h⟩⟩ := h
  · cases h
  · exact ⟨b', e, h⟩
set_option maxRecDepth 100000 in
set_option maxHeartbeats 8000000 in
theorem put_yes (kw vw : Int) (n : Nd) (p : Pl) (w : World) (h : NdR w n p) (hok : okB kw vw n = true) :
    Calls Try.prog 13 #[.agg #[.int .i64 kw, .int .i64 vw], .agg (ncs n p)] w fun e w' => ∃ g c, e = .returned (.tuple #[.slice (some ⟨g, 0, none⟩) 512 c, .int .i64 0]) ∧ 512 ≤ c ∧ c ≤ maxLen ∧ Rd w' (some ⟨g, 0, none⟩) (pageL n) ∧ w.heap.size ≤ g ∧ Kp (fun _ => False) w w' := by
  obtain ⟨W, hW, b0, b1, k0⟩ : ∃ W, W = (w.alloc (.cells #[.int .i64 kw, .int .i64 vw] 30)).alloc (.cells (ncs n p) 36) ∧ Box W w.heap.size 30 #[.int .i64 kw, .int .i64 vw] ∧ Box W (w.heap.size + 1) 36 (ncs n p) ∧ Kp (fun _ => False) w W := ⟨_, rfl, (Box.new w _ _).alloc _, by simpa using Box.new (w.alloc (.cells #[.int .i64 kw, .int .i64 vw] 30)) 36 (ncs n p), ((Kp.refl _ w).alloc _).alloc _⟩
  have HW := Lib.hid hW
  have K0 := Lib.hid k0
  have HF : Hid (∀ v, Kp (fun _ => False) W v → v.cell? ⟨w.heap.size, 0, none⟩ = some (.int .i64 kw) ∧ v.cell? ⟨w.heap.size, 1, none⟩ = some (.int .i64 vw) ∧ v.cell? ⟨w.heap.size + 1, 0, none⟩ = some (.bool n.leaf) ∧ v.cell? ⟨w.heap.size + 1, 1, none⟩ = some (.slice p.k n.keys.length p.ck) ∧ v.cell? ⟨w.heap.size + 1, 2, none⟩ = some (.slice p.v n.vals.length p.cv) ∧ v.cell? ⟨w.heap.size + 1, 3, none⟩ = some (.slice p.c n.kids.length p.cc)) := Lib.hid fun v hv =>
    ⟨(b0.kp hv (fun h => h)).cell 0, (b0.kp hv (fun h => h)).cell 1, (b1.kp hv (fun h => h)).cell 0, (b1.kp hv (fun h => h)).cell 1, (b1.kp hv (fun h => h)).cell 2, (b1.kp hv (fun h => h)).cell 3⟩
  have HS : Hid (∀ v, Kp (fun _ => False) W v → Box v w.heap.size 30 #[.int .i64 kw, .int .i64 vw]) := Lib.hid fun v hv => b0.kp hv (fun h => h)
  have HR : Hid (∀ v, Kp (fun _ => False) W v → NdR v n p) := Lib.hid fun v hv => h.still (k0.trans hv)
  have HN : Hid (∀ v, Kp (fun _ => False) W v → Box v (w.heap.size + 1) 36 (ncs n p)) := Lib.hid fun v hv => b1.kp hv (fun h => h)
  clear hW b0 b1 k0 h
  have hb : shB kw vw = true := by have := hok; simp only [okB, Bool.and_eq_true] at this; exact this.1
  have hh : hasB kw vw n = true := by have := hok; simp only [okB, Bool.and_eq_true] at this; exact this.2
  have HB := Lib.hid hb
  have HH := Lib.hid hh
  have HOK := Lib.hid hok
  obtain ⟨hk1, hk2, hk3⟩ := okB_keys hok
  have HVL : Hid (n.leaf = true → n.vals.length = n.keys.length) := Lib.hid fun hl => (okB_leaf hok hl).2.2.1
  have HKD : Hid (∀ c ∈ n.kids, 1 ≤ c ∧ c < 1024) := Lib.hid (by
    rcases hl : n.leaf with _ | _
    · exact (okB_inner hok hl).2.2.2.2.2.1
    · rw [(okB_leaf hok hl).2.2.2.1]
      intro c hc
      cases hc)
  clear hb hh hok
  obtain ⟨lf, hlf⟩ : ∃ lf, lf = n.leaf := ⟨_, rfl⟩
  have hwl : IntKind.u64.wrap (n.keys.length : Int) = (n.keys.length : Int) := IntWalk.u64_in _ (by omega)
  go_enter Try.func13, Try.ntmps13
  go_upto_region 1 with fail
  rw [← HW.out]
  obtain ⟨y0, y1, y2, y3, y4, y5⟩ := HF.out W (Kp.refl _ _)
  go_wp2_with fail
  refine (may_any _ _ _).mono ?_
  rintro e w1 ⟨rfl, kk⟩
  have K1 := Lib.hid kk
  clear kk y0 y1 y2 y3 y4 y5
  rw [HB.out]
  obtain ⟨y0, y1, y2, y3, y4, y5⟩ := HF.out w1 K1.out
  go_wp2_with fail
  refine (has_any kw vw n p _ (HR.out w1 K1.out)).mono ?_
  rintro e w2 ⟨rfl, kk⟩
  have K2 := Lib.hid kk
  clear kk y0 y1 y2 y3 y4 y5
  rw [HH.out]
  obtain ⟨y0, y1, y2, y3, y4, y5⟩ := HF.out w2 (K1.out.trans K2.out)
  rcases hl : n.leaf with _ | _
  · rw [hl] at y2
    have HLF := Lib.hid hl
    clear hl
    go_upto_region 6 with fail
    clear y0 y1 y2 y3 y4 y5
    refine wp_region_held_drew (S := fun v => v.cell? ⟨w.heap.size + 1, 1, none⟩ = some (.slice p.k n.keys.length p.ck)) (by kernel_rfl) ((HF.out w2 (K1.out.trans K2.out)).2.2.2.1) (fun hHeld => ?_)
    refine tk 1 (h := ?_)
    refine tk 4 (h := ?_)
    refine tk 5 (h := ?_)
    refine tk 6 (h := ?_)
    refine tk 7 (h := ?_)
    refine rd 0 (h := fun K hK => ?_)
    go_simp
    refine (new_any (fun k => w2.heap.size ≤ k) w2.drew (Nat.le_refl _)).mono ?_
    rintro e w3 ⟨rfl, hp, hk⟩
    have Pw3 := Lib.hid (pk_mk hp)
    have Kw3 : Hid (Kp (fun k => w2.heap.size ≤ k) w2 w3) := Lib.hid (((Kp.refl _ w2).drew).trans (hk.mono fun _ _ h => h.elim))
    generalize Value.pointer (some ⟨w2.drew.heap.size, 0, none⟩) = pv at *
    clear hp hk
    go_wp2_with fail
    refine hK.out _ _ (((HF.out w2 (K1.out.trans K2.out)).2.2.2.1 |> fun y => ((Kw3.out.fresh (fun _ => False)).cell (p := ⟨w.heap.size + 1, 1, none⟩) (World.block_lt_of_cell? w2 ⟨w.heap.size + 1, 1, none⟩ y) (fun h => h)).trans y)) (fun hHeld1 => ?_)
    clear hK K
    try simp only [Act.put, List.setIfInBounds_toArray, List.set_cons_zero, List.set_cons_succ]
    refine rd 2 (h := fun K hK => ?_)
    go_simp
    have hFN : ∀ k, w3.heap.size ≤ k → w2.heap.size ≤ k := fun k hk => by have := Kw3.out.size; omega
    have hcall := put_fine1 (F := fun k => w2.heap.size ≤ k) Pw3.out hFN 2 (by decide) (by simp)
    refine hcall.mono ?_
    clear hcall hFN
    rintro e w4 ⟨rfl, hp, hk⟩
    rw [putS0] at hp
    have Pw4 := Lib.hid hp
    have Kw4 : Hid (Kp (fun k => w2.heap.size ≤ k) w2 w4) := Lib.hid (Kw3.out.trans hk)
    clear hp hk
    go_wp2_with fail
    refine hK.out _ _ (((HF.out w2 (K1.out.trans K2.out)).2.2.2.1 |> fun y => ((Kw4.out.fresh (fun _ => False)).cell (p := ⟨w.heap.size + 1, 1, none⟩) (World.block_lt_of_cell? w2 ⟨w.heap.size + 1, 1, none⟩ y) (fun h => h)).trans y)) (fun hHeld2 => ?_)
    clear hK K
    try simp only [Act.put, List.setIfInBounds_toArray, List.set_cons_zero, List.set_cons_succ]
    refine rd 3 (h := fun K hK => ?_)
    go_simp
    have hFN : ∀ k, w4.heap.size ≤ k → w2.heap.size ≤ k := fun k hk => by have := Kw4.out.size; omega
    have hcall := put_fine1 (F := fun k => w2.heap.size ≤ k) Pw4.out hFN 0 (by decide) (by simp [beN_length])
    refine hcall.mono ?_
    clear hcall hFN
    rintro e w5 ⟨rfl, hp, hk⟩
    rw [putS0] at hp
    have Pw5 := Lib.hid hp
    have Kw5 : Hid (Kp (fun k => w2.heap.size ≤ k) w2 w5) := Lib.hid (Kw4.out.trans hk)
    clear hp hk
    go_wp2_with fail
    refine hK.out _ _ (((HF.out w2 (K1.out.trans K2.out)).2.2.2.1 |> fun y => ((Kw5.out.fresh (fun _ => False)).cell (p := ⟨w.heap.size + 1, 1, none⟩) (World.block_lt_of_cell? w2 ⟨w.heap.size + 1, 1, none⟩ y) (fun h => h)).trans y)) (fun hHeld3 => ?_)
    clear hK K
    try simp only [Act.put, List.setIfInBounds_toArray, List.set_cons_zero, List.set_cons_succ]
    refine rd 8 (h := fun K hK => ?_)
    go_simp
    have hFN : ∀ k, w5.heap.size ≤ k → w2.heap.size ≤ k := fun k hk => by have := Kw5.out.size; omega
    have hcall := put_fine2 (F := fun k => w2.heap.size ≤ k) Pw5.out hFN n.keys.length (by omega) (by simp [beN_length])
    refine hcall.mono ?_
    clear hcall hFN
    rintro e w6 ⟨rfl, hp, hk⟩
    rw [putS0] at hp
    have Pw6 := Lib.hid hp
    have Kw6 : Hid (Kp (fun k => w2.heap.size ≤ k) w2 w6) := Lib.hid (Kw5.out.trans hk)
    clear hp hk
    go_wp2_with fail
    refine hK.out _ _ (((HF.out w2 (K1.out.trans K2.out)).2.2.2.1 |> fun y => ((Kw6.out.fresh (fun _ => False)).cell (p := ⟨w.heap.size + 1, 1, none⟩) (World.block_lt_of_cell? w2 ⟨w.heap.size + 1, 1, none⟩ y) (fun h => h)).trans y)) (fun hHeld4 => ?_)
    clear hK K
    try simp only [Act.put, List.setIfInBounds_toArray, List.set_cons_zero, List.set_cons_succ]
    refine tk 9 (h := ?_)
    refine wpAnyH_done (by kernel_rfl) ?_ _
    have PH : Hid (Pk (fun k => w2.heap.size ≤ k) w6 pv (headL n) 0) := Lib.hid (by
      have := Pw6.out
      have e : headL n = [] ++ beN 1 2 ++ beN 1 0 ++ beN 2 n.keys.length := by simp [headL, kindN, HLF.out]
      rw [e]
      exact this)
    have KA := Lib.hid (K0.out.trans (K1.out.trans K2.out))
    clear hwl
    obtain ⟨z0, z1, z2, z3, z4, z5⟩ := HF.out w6 ((K1.out.trans K2.out).trans (Kw6.out.fresh _))
    clear z0 z1 z2 z3 z4
    go_wp2_with fail
    go_loopw [37] (fun s37 wr => ∃ k : Nat, k ≤ n.kids.length ∧ s37 = .int .i64 k ∧ Pk (fun k => w2.heap.size ≤ k) wr pv (headL n ++ kidL (n.kids.take k)) 0 ∧ Kp (fun k => w2.heap.size ≤ k) w2 wr) (fun s37 _ => n.kids.length - (Go.RowKit.intOf s37).toNat)
    case atStart => exact ⟨0, Nat.zero_le _, rfl, by simpa [kidL] using PH.out, Kw6.out⟩
    case round =>
      obtain ⟨k, hk, rfl, hp, hkp⟩ := hrel
      have HP := Lib.hid hp
      have HK := Lib.hid hkp
      clear hp hkp
      by_cases hlt : k < n.kids.length
      · obtain ⟨x, hx⟩ : ∃ x, n.kids[k]? = some x := ⟨_, List.getElem?_eq_getElem hlt⟩
        obtain ⟨b, o, hA, y⟩ := (HR.out wr ((K1.out.trans K2.out).trans (HK.out.fresh _))).c.at (its_get hx)
        have hb := HKD.out x (List.mem_of_getElem? hx)
        obtain ⟨c, rfl⟩ : ∃ c : Nat, x = c := ⟨x.toNat, by omega⟩
        obtain ⟨hb1, hb2⟩ := hb
        have hwx : IntKind.u64.wrap (c : Int) = (c : Int) := IntWalk.u64_in _ (by omega)
        have HX := Lib.hid hx
        have hla : Hid ((headL n ++ kidL (n.kids.take k)).length + 2 ≤ 140737488355328) := Lib.hid (by simp only [List.length_append, headL_len, kidL_len, List.length_take]; omega)
        clear hx
        rw [hA]
        go_wp2_with fail
        refine (put_fine2 HP.out (fun j hj => by have := HK.out.size; omega) c (by omega) hla.out).mono ?_
        rintro e w7 ⟨rfl, hp, hkk⟩
        rw [putS0, List.append_assoc, ← kidL_snoc HX.out] at hp
        have HP7 := Lib.hid hp
        have HK7 : Hid (Kp (fun k => w2.heap.size ≤ k) w2 w7) := Lib.hid (HK.out.trans hkk)
        clear hp hkk hwx y hb1 hb2
        go_wp2_with fail
        go_roundw
        case rel => exact ⟨k + 1, by omega, by go_num, HP7.out, HK7.out⟩
        case measure => simp [Go.RowKit.intOf]; omega
      · obtain rfl : k = n.kids.length := by omega
        have HP8 : Hid (Pk (fun k => w2.heap.size ≤ k) wr pv (headL n ++ kidL n.kids) 0) := Lib.hid (by have := HP.out; rwa [List.take_length] at this)
        clear hlt hk
        obtain ⟨wa, hwa⟩ : ∃ wa, wa = wr := ⟨_, rfl⟩
        subst hwa
        obtain ⟨q0, q1, q2, q3, q4, q5⟩ := HF.out wa ((K1.out.trans K2.out).trans (HK.out.fresh _))
        clear q0 q1 q2 q4 q5
        go_upto_region 13 with fail
        go_loopw [49] (fun s49 wr => ∃ k : Nat, k ≤ n.keys.length ∧ s49 = .int .i64 k ∧ Pk (fun k => w2.heap.size ≤ k) wr pv (headL n ++ kidL n.kids ++ preL n k) 0 ∧ Kp (fun k => w2.heap.size ≤ k) w2 wr) (fun s49 _ => n.keys.length - (Go.RowKit.intOf s49).toNat)
        case atStart => exact ⟨0, Nat.zero_le _, rfl, by have := HP8.out; simpa [preL, HLF.out, entL, keyL] using this, HK.out⟩
        case round =>
          obtain ⟨j, hj, rfl, hp, hkp⟩ := hrel
          have HPT := Lib.hid hp
          have HKT := Lib.hid hkp
          clear hp hkp q3
          obtain ⟨q0, q1, q2, q3, q4, q5⟩ := HF.out wr ((K1.out.trans K2.out).trans (HKT.out.fresh _))
          clear q0 q1 q3 q5
          rw [HLF.out] at q2
          by_cases hlt : j < n.keys.length
          · obtain ⟨x, hx⟩ : ∃ x, n.keys[j]? = some x := ⟨_, List.getElem?_eq_getElem hlt⟩
            obtain ⟨b, o, hA, y⟩ := (HR.out wr ((K1.out.trans K2.out).trans (HKT.out.fresh _))).k.at (sts_get hx)
            have HX := Lib.hid hx
            have HPL := Lib.hid (preL_len HOK.out j)
            have HXS : Hid (x.size ≤ 64) := Lib.hid (by obtain ⟨hs, _, _, _, _, _, h5⟩ := okB_inner HOK.out HLF.out; have := keysB_sizes h5 x (List.mem_of_getElem? hx); omega)
            clear hx
            rw [hA]
            go_wp2_with fail
            refine (text_any HPT.out (fun i hi => by have := HKT.out.size; omega) x (by have h1 := HPL.out; have h2 := HXS.out; simp only [List.length_append, headL_len, kidL_len]; omega)).mono ?_
            rintro e w7 ⟨rfl, hp, hkk⟩
            rw [putS0] at hp
            have HP7 := Lib.hid hp
            have HK7 : Hid (Kp (fun k => w2.heap.size ≤ k) w2 w7) := Lib.hid (HKT.out.trans hkk)
            clear hp hkk y q2 q4
            obtain ⟨q0, q1, q2, q3, q4, q5⟩ := HF.out w7 ((K1.out.trans K2.out).trans (HK7.out.fresh _))
            clear q0 q1 q3 q5
            rw [HLF.out] at q2
            have HP9 : Hid (Pk (fun k => w2.heap.size ≤ k) w7 pv (headL n ++ kidL n.kids ++ preL n (j + 1)) 0) := Lib.hid (by
              have := HP7.out
              rw [List.append_assoc, show tb x = byt x from rfl, ← preL_inner HLF.out HX.out] at this
              exact this)
            go_wp2_with fail
            go_roundw
            case rel => exact ⟨j + 1, by omega, by go_num, HP9.out, HK7.out⟩
            case measure => simp [Go.RowKit.intOf]; omega
          · obtain rfl : j = n.keys.length := by omega
            clear q2 q4 hlt hj
            have HPE : Hid (Pk (fun k => w2.heap.size ≤ k) wr pv (wordL n) 0) := Lib.hid (by have := HPT.out; rw [preL_all HVL.out, List.append_assoc] at this; exact this)
            obtain ⟨bp, rfl, HPP⟩ := pk_ptr HPE.out
            have HPQ := Lib.hid HPP
            clear HPP
            have HWL := Lib.hid (word_le HOK.out)
            go_wp2_with fail
            refine (bytes_own HPQ.out (by have := HWL.out; omega)).mono ?_
            rintro e w9 ⟨v9, rfl, ho, hfr, hk9⟩
            have hpos : 0 < (wordL n).length := by simp [wordL, headL_len]; omega
            obtain ⟨k, hk⟩ : ∃ k : Nat, (wordL n).length + k = 512 := ⟨512 - (wordL n).length, by have := HWL.out; omega⟩
            obtain ⟨i0, hi, hz0, hz1, hz2⟩ := info_parts info_byte
            obtain ⟨v', w', hr, hown, hgr, hat⟩ := run_zeros (P := Try.prog) w9 32 3 32 5 i0 .i64 Try.underlying32 Try.underlying3 hi hz0 hz1 hz2 v9 (wordL n) hpos ho k (by omega)
            obtain ⟨A9, c9, rfl⟩ := own_shape ho
            have hpg : wordL n ++ List.replicate k 0 = pageL n := by unfold pageL; rw [show 512 - (wordL n).length = k by omega]
            rw [hk, hpg] at hown
            have hsub : IntKind.i64.wrap ((512 : Int) - (wordL n).length) = (k : Int) := by rw [IntWalk.i64_in _ (by omega)]; omega
            have HO := Lib.hid hown
            have HG := Lib.hid hgr
            have HA := Lib.hid hat
            have HFR := Lib.hid hfr
            have H9 := Lib.hid hk9
            clear ho hown hgr hat hfr hk9 hi hz0 hz1 hz2 hpos hk hpg
            generalize (wordL n).length = wl at *
            go_wp2_with (first | (at_builtin; refine Lib.wpList_append_run _ rfl (.tmp 72) (.tmp 75) 32 3 rfl _ _ rfl rfl _ _ hr ?_) | fail)
            go_ret2
            have hkz : Kp (fun k => w2.heap.size ≤ k) w2 w' := (HKT.out.trans (H9.out.mono fun _ _ h => h.elim)).grown HG.out (fun i hi => .inl (by have h1 := HFR.out i hi; have h2 := HKT.out.size; omega))
            obtain ⟨A, c, rfl⟩ := own_shape HO.out
            have hrd := Rd.of_own HO.out
            have hsz := KA.out.size
            rcases HO.out.2 with ⟨_, h0⟩ | ⟨g, cap, cur, hv, _, _, hnc, hcm, _⟩
            · omega
            · cases hv
              refine ⟨g, c, rfl, hnc, hcm, hrd, ?_, KA.out.trans (hkz.fresh _)⟩
              rcases HA.out with e | e
              · have := HFR.out g (by rw [← e]; rfl)
                have h2 := HKT.out.size
                omega
              · have e' : some g = some w9.heap.size := e
                have h2 := HKT.out.size
                have h3 := H9.out.size
                injection e' with e'
                omega
  · rw [hl] at y2
    have HLF := Lib.hid hl
    clear hl
    go_upto_region 6 with fail
    clear y0 y1 y2 y3 y4 y5
    refine wp_region_held_drew (S := fun v => v.cell? ⟨w.heap.size + 1, 1, none⟩ = some (.slice p.k n.keys.length p.ck)) (by kernel_rfl) ((HF.out w2 (K1.out.trans K2.out)).2.2.2.1) (fun hHeld => ?_)
    refine tk 1 (h := ?_)
    refine tk 4 (h := ?_)
    refine tk 5 (h := ?_)
    refine tk 6 (h := ?_)
    refine tk 7 (h := ?_)
    refine rd 0 (h := fun K hK => ?_)
    go_simp
    refine (new_any (fun k => w2.heap.size ≤ k) w2.drew (Nat.le_refl _)).mono ?_
    rintro e w3 ⟨rfl, hp, hk⟩
    have Pw3 := Lib.hid (pk_mk hp)
    have Kw3 : Hid (Kp (fun k => w2.heap.size ≤ k) w2 w3) := Lib.hid (((Kp.refl _ w2).drew).trans (hk.mono fun _ _ h => h.elim))
    generalize Value.pointer (some ⟨w2.drew.heap.size, 0, none⟩) = pv at *
    clear hp hk
    go_wp2_with fail
    refine hK.out _ _ (((HF.out w2 (K1.out.trans K2.out)).2.2.2.1 |> fun y => ((Kw3.out.fresh (fun _ => False)).cell (p := ⟨w.heap.size + 1, 1, none⟩) (World.block_lt_of_cell? w2 ⟨w.heap.size + 1, 1, none⟩ y) (fun h => h)).trans y)) (fun hHeld1 => ?_)
    clear hK K
    try simp only [Act.put, List.setIfInBounds_toArray, List.set_cons_zero, List.set_cons_succ]
    refine rd 2 (h := fun K hK => ?_)
    go_simp
    have hFN : ∀ k, w3.heap.size ≤ k → w2.heap.size ≤ k := fun k hk => by have := Kw3.out.size; omega
    have hcall := put_fine1 (F := fun k => w2.heap.size ≤ k) Pw3.out hFN 1 (by decide) (by simp)
    refine hcall.mono ?_
    clear hcall hFN
    rintro e w4 ⟨rfl, hp, hk⟩
    rw [putS0] at hp
    have Pw4 := Lib.hid hp
    have Kw4 : Hid (Kp (fun k => w2.heap.size ≤ k) w2 w4) := Lib.hid (Kw3.out.trans hk)
    clear hp hk
    go_wp2_with fail
    refine hK.out _ _ (((HF.out w2 (K1.out.trans K2.out)).2.2.2.1 |> fun y => ((Kw4.out.fresh (fun _ => False)).cell (p := ⟨w.heap.size + 1, 1, none⟩) (World.block_lt_of_cell? w2 ⟨w.heap.size + 1, 1, none⟩ y) (fun h => h)).trans y)) (fun hHeld5 => ?_)
    clear hK K
    try simp only [Act.put, List.setIfInBounds_toArray, List.set_cons_zero, List.set_cons_succ]
    refine rd 3 (h := fun K hK => ?_)
    go_simp
    have hFN : ∀ k, w4.heap.size ≤ k → w2.heap.size ≤ k := fun k hk => by have := Kw4.out.size; omega
    have hcall := put_fine1 (F := fun k => w2.heap.size ≤ k) Pw4.out hFN 0 (by decide) (by simp [beN_length])
    refine hcall.mono ?_
    clear hcall hFN
    rintro e w5 ⟨rfl, hp, hk⟩
    rw [putS0] at hp
    have Pw5 := Lib.hid hp
    have Kw5 : Hid (Kp (fun k => w2.heap.size ≤ k) w2 w5) := Lib.hid (Kw4.out.trans hk)
    clear hp hk
    go_wp2_with fail
    refine hK.out _ _ (((HF.out w2 (K1.out.trans K2.out)).2.2.2.1 |> fun y => ((Kw5.out.fresh (fun _ => False)).cell (p := ⟨w.heap.size + 1, 1, none⟩) (World.block_lt_of_cell? w2 ⟨w.heap.size + 1, 1, none⟩ y) (fun h => h)).trans y)) (fun hHeld6 => ?_)
    clear hK K
    try simp only [Act.put, List.setIfInBounds_toArray, List.set_cons_zero, List.set_cons_succ]
    refine rd 8 (h := fun K hK => ?_)
    go_simp
    have hFN : ∀ k, w5.heap.size ≤ k → w2.heap.size ≤ k := fun k hk => by have := Kw5.out.size; omega
    have hcall := put_fine2 (F := fun k => w2.heap.size ≤ k) Pw5.out hFN n.keys.length (by omega) (by simp [beN_length])
    refine hcall.mono ?_
    clear hcall hFN
    rintro e w6 ⟨rfl, hp, hk⟩
    rw [putS0] at hp
    have Pw6 := Lib.hid hp
    have Kw6 : Hid (Kp (fun k => w2.heap.size ≤ k) w2 w6) := Lib.hid (Kw5.out.trans hk)
    clear hp hk
    go_wp2_with fail
    refine hK.out _ _ (((HF.out w2 (K1.out.trans K2.out)).2.2.2.1 |> fun y => ((Kw6.out.fresh (fun _ => False)).cell (p := ⟨w.heap.size + 1, 1, none⟩) (World.block_lt_of_cell? w2 ⟨w.heap.size + 1, 1, none⟩ y) (fun h => h)).trans y)) (fun hHeld7 => ?_)
    clear hK K
    try simp only [Act.put, List.setIfInBounds_toArray, List.set_cons_zero, List.set_cons_succ]
    refine tk 9 (h := ?_)
    refine wpAnyH_done (by kernel_rfl) ?_ _
    have PH : Hid (Pk (fun k => w2.heap.size ≤ k) w6 pv (headL n) 0) := Lib.hid (by
      have := Pw6.out
      have e : headL n = [] ++ beN 1 1 ++ beN 1 0 ++ beN 2 n.keys.length := by simp [headL, kindN, HLF.out]
      rw [e]
      exact this)
    have KA := Lib.hid (K0.out.trans (K1.out.trans K2.out))
    clear hwl
    obtain ⟨z0, z1, z2, z3, z4, z5⟩ := HF.out w6 ((K1.out.trans K2.out).trans (Kw6.out.fresh _))
    clear z0 z1 z2 z3 z4
    go_wp2_with fail
    go_loopw [37] (fun s37 wr => ∃ k : Nat, k ≤ n.kids.length ∧ s37 = .int .i64 k ∧ Pk (fun k => w2.heap.size ≤ k) wr pv (headL n ++ kidL (n.kids.take k)) 0 ∧ Kp (fun k => w2.heap.size ≤ k) w2 wr) (fun s37 _ => n.kids.length - (Go.RowKit.intOf s37).toNat)
    case atStart => exact ⟨0, Nat.zero_le _, rfl, by simpa [kidL] using PH.out, Kw6.out⟩
    case round =>
      obtain ⟨k, hk, rfl, hp, hkp⟩ := hrel
      have HP := Lib.hid hp
      have HK := Lib.hid hkp
      clear hp hkp
      by_cases hlt : k < n.kids.length
      · obtain ⟨x, hx⟩ : ∃ x, n.kids[k]? = some x := ⟨_, List.getElem?_eq_getElem hlt⟩
        obtain ⟨b, o, hA, y⟩ := (HR.out wr ((K1.out.trans K2.out).trans (HK.out.fresh _))).c.at (its_get hx)
        have hb := HKD.out x (List.mem_of_getElem? hx)
        obtain ⟨c, rfl⟩ : ∃ c : Nat, x = c := ⟨x.toNat, by omega⟩
        obtain ⟨hb1, hb2⟩ := hb
        have hwx : IntKind.u64.wrap (c : Int) = (c : Int) := IntWalk.u64_in _ (by omega)
        have HX := Lib.hid hx
        have hla : Hid ((headL n ++ kidL (n.kids.take k)).length + 2 ≤ 140737488355328) := Lib.hid (by simp only [List.length_append, headL_len, kidL_len, List.length_take]; omega)
        clear hx
        rw [hA]
        go_wp2_with fail
        refine (put_fine2 HP.out (fun j hj => by have := HK.out.size; omega) c (by omega) hla.out).mono ?_
        rintro e w7 ⟨rfl, hp, hkk⟩
        rw [putS0, List.append_assoc, ← kidL_snoc HX.out] at hp
        have HP7 := Lib.hid hp
        have HK7 : Hid (Kp (fun k => w2.heap.size ≤ k) w2 w7) := Lib.hid (HK.out.trans hkk)
        clear hp hkk hwx y hb1 hb2
        go_wp2_with fail
        go_roundw
        case rel => exact ⟨k + 1, by omega, by go_num, HP7.out, HK7.out⟩
        case measure => simp [Go.RowKit.intOf]; omega
      · obtain rfl : k = n.kids.length := by omega
        have HP8 : Hid (Pk (fun k => w2.heap.size ≤ k) wr pv (headL n ++ kidL n.kids) 0) := Lib.hid (by have := HP.out; rwa [List.take_length] at this)
        clear hlt hk
        obtain ⟨wa, hwa⟩ : ∃ wa, wa = wr := ⟨_, rfl⟩
        subst hwa
        obtain ⟨q0, q1, q2, q3, q4, q5⟩ := HF.out wa ((K1.out.trans K2.out).trans (HK.out.fresh _))
        clear q0 q1 q2 q4 q5
        go_upto_region 13 with fail
        go_loopw [49] (fun s49 wr => ∃ k : Nat, k ≤ n.keys.length ∧ s49 = .int .i64 k ∧ Pk (fun k => w2.heap.size ≤ k) wr pv (headL n ++ kidL n.kids ++ preL n k) 0 ∧ Kp (fun k => w2.heap.size ≤ k) w2 wr) (fun s49 _ => n.keys.length - (Go.RowKit.intOf s49).toNat)
        case atStart => exact ⟨0, Nat.zero_le _, rfl, by have := HP8.out; simpa [preL, HLF.out, entL, keyL] using this, HK.out⟩
        case round =>
          obtain ⟨j, hj, rfl, hp, hkp⟩ := hrel
          have HPT := Lib.hid hp
          have HKT := Lib.hid hkp
          clear hp hkp q3
          obtain ⟨q0, q1, q2, q3, q4, q5⟩ := HF.out wr ((K1.out.trans K2.out).trans (HKT.out.fresh _))
          clear q0 q1 q3 q5
          rw [HLF.out] at q2
          by_cases hlt : j < n.keys.length
          · obtain ⟨x, hx⟩ : ∃ x, n.keys[j]? = some x := ⟨_, List.getElem?_eq_getElem hlt⟩
            obtain ⟨b, o, hA, y⟩ := (HR.out wr ((K1.out.trans K2.out).trans (HKT.out.fresh _))).k.at (sts_get hx)
            have HX := Lib.hid hx
            have HPL := Lib.hid (preL_len HOK.out j)
            have HXS : Hid (x.size ≤ 64) := Lib.hid (by obtain ⟨hs, _, _, _, _, h5⟩ := okB_leaf HOK.out HLF.out; have := keysB_sizes h5 x (List.mem_of_getElem? hx); omega)
            clear hx
            rw [hA]
            go_wp2_with fail
            refine (text_any HPT.out (fun i hi => by have := HKT.out.size; omega) x (by have h1 := HPL.out; have h2 := HXS.out; simp only [List.length_append, headL_len, kidL_len]; omega)).mono ?_
            rintro e w7 ⟨rfl, hp, hkk⟩
            rw [putS0] at hp
            have HP7 := Lib.hid hp
            have HK7 : Hid (Kp (fun k => w2.heap.size ≤ k) w2 w7) := Lib.hid (HKT.out.trans hkk)
            clear hp hkk y q2 q4
            obtain ⟨q0, q1, q2, q3, q4, q5⟩ := HF.out w7 ((K1.out.trans K2.out).trans (HK7.out.fresh _))
            clear q0 q1 q3 q5
            rw [HLF.out] at q2
            obtain ⟨v, hv⟩ : ∃ v, n.vals[j]? = some v := ⟨_, List.getElem?_eq_getElem (by rw [HVL.out HLF.out]; exact hlt)⟩
            obtain ⟨b2, o2, hA2, y2⟩ := (HR.out w7 ((K1.out.trans K2.out).trans (HK7.out.fresh _))).v.at (sts_get hv)
            have hvl : n.vals.length = n.keys.length := HVL.out HLF.out
            have HV := Lib.hid hv
            have HVS : Hid (v.size ≤ 64) := Lib.hid (by obtain ⟨hs, _, _, _, h4, _⟩ := okB_leaf HOK.out HLF.out; have := h4 v (List.mem_of_getElem? hv); omega)
            have hjv : j < n.vals.length := by rw [hvl]; exact hlt
            have HVE := Lib.hid hvl
            clear hv hvl
            rw [hA2] at q4
            clear hA2
            have HLA : Hid ((headL n ++ kidL n.kids ++ preL n j ++ tb x).length + v.size ≤ 140737488355328) := Lib.hid (by
              have h1 := HPL.out
              have h2 := HXS.out
              have h3 := HVS.out
              have h4 : (tb x).length = x.size := byt_len x
              simp only [List.length_append, headL_len, kidL_len, h4]
              omega)
            go_wp2_with fail
            refine (text_any HP7.out (fun i hi => by have := HK7.out.size; omega) v HLA.out).mono ?_
            rintro e w8 ⟨rfl, hp, hkk⟩
            rw [putS0, List.append_assoc, List.append_assoc, ← List.append_assoc (preL n j), show tb x = byt x from rfl, show tb v = byt v from rfl, ← preL_leaf HLF.out HX.out HV.out] at hp
            have HP9 := Lib.hid hp
            have HK9 : Hid (Kp (fun k => w2.heap.size ≤ k) w2 w8) := Lib.hid (HK7.out.trans hkk)
            clear hp hkk y2 q2 q4
            go_wp2_with fail
            go_roundw
            case rel => exact ⟨j + 1, by omega, by go_num, HP9.out, HK9.out⟩
            case measure => simp [Go.RowKit.intOf]; omega
          · obtain rfl : j = n.keys.length := by omega
            clear q2 q4 hlt hj
            have HPE : Hid (Pk (fun k => w2.heap.size ≤ k) wr pv (wordL n) 0) := Lib.hid (by have := HPT.out; rw [preL_all HVL.out, List.append_assoc] at this; exact this)
            obtain ⟨bp, rfl, HPP⟩ := pk_ptr HPE.out
            have HPQ := Lib.hid HPP
            clear HPP
            have HWL := Lib.hid (word_le HOK.out)
            go_wp2_with fail
            refine (bytes_own HPQ.out (by have := HWL.out; omega)).mono ?_
            rintro e w9 ⟨v9, rfl, ho, hfr, hk9⟩
            have hpos : 0 < (wordL n).length := by simp [wordL, headL_len]; omega
            obtain ⟨k, hk⟩ : ∃ k : Nat, (wordL n).length + k = 512 := ⟨512 - (wordL n).length, by have := HWL.out; omega⟩
            obtain ⟨i0, hi, hz0, hz1, hz2⟩ := info_parts info_byte
            obtain ⟨v', w', hr, hown, hgr, hat⟩ := run_zeros (P := Try.prog) w9 32 3 32 5 i0 .i64 Try.underlying32 Try.underlying3 hi hz0 hz1 hz2 v9 (wordL n) hpos ho k (by omega)
            obtain ⟨A9, c9, rfl⟩ := own_shape ho
            have hpg : wordL n ++ List.replicate k 0 = pageL n := by unfold pageL; rw [show 512 - (wordL n).length = k by omega]
            rw [hk, hpg] at hown
            have hsub : IntKind.i64.wrap ((512 : Int) - (wordL n).length) = (k : Int) := by rw [IntWalk.i64_in _ (by omega)]; omega
            have HO := Lib.hid hown
            have HG := Lib.hid hgr
            have HA := Lib.hid hat
            have HFR := Lib.hid hfr
            have H9 := Lib.hid hk9
            clear ho hown hgr hat hfr hk9 hi hz0 hz1 hz2 hpos hk hpg
            generalize (wordL n).length = wl at *
            go_wp2_with (first | (at_builtin; refine Lib.wpList_append_run _ rfl (.tmp 72) (.tmp 75) 32 3 rfl _ _ rfl rfl _ _ hr ?_) | fail)
            go_ret2
            have hkz : Kp (fun k => w2.heap.size ≤ k) w2 w' := (HKT.out.trans (H9.out.mono fun _ _ h => h.elim)).grown HG.out (fun i hi => .inl (by have h1 := HFR.out i hi; have h2 := HKT.out.size; omega))
            obtain ⟨A, c, rfl⟩ := own_shape HO.out
            have hrd := Rd.of_own HO.out
            have hsz := KA.out.size
            rcases HO.out.2 with ⟨_, h0⟩ | ⟨g, cap, cur, hv, _, _, hnc, hcm, _⟩
            · omega
            · cases hv
              refine ⟨g, c, rfl, hnc, hcm, hrd, ?_, KA.out.trans (hkz.fresh _)⟩
              rcases HA.out with e | e
              · have := HFR.out g (by rw [← e]; rfl)
                have h2 := HKT.out.size
                omega
              · have e' : some g = some w9.heap.size := e
                have h2 := HKT.out.size
                have h3 := H9.out.size
                injection e' with e'
                omega
end Go.Proofs.Ytjapnkpicefadaa
