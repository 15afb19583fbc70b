/- What Put answers. No condition. -/
import Derived.Test.YtoonihhjdmkflaaChRise
import Derived.Test.YtoonihhjdmkflaaGen
namespace Go.Proofs.Ytoonihhjdmkflaa
open Go.RowKit

theorem putS0 (l s : List UInt8) : putS l 0 s = l ++ s := by simp [putS]
theorem pk_mk {F : Nat → Prop} {w : World} {b : Nat} {l : List UInt8} (h : Pkr F w b l 0) : Pk F w (.pointer (some ⟨b, 0, none⟩)) l 0 := ⟨fun e => absurd rfl e, .inr ⟨b, rfl, h⟩⟩
theorem Pk.mono {F F' : Nat → Prop} {w : World} {p : Value} {l : List UInt8} {err : Int} (h : Pk F w p l err) (hf : ∀ k, F k → F' k) : Pk F' w p l err := by
  obtain ⟨h0, h | ⟨b, e, hb, v, hx, ho, hv⟩⟩ := h
  · exact ⟨h0, .inl h⟩
  · exact ⟨h0, .inr ⟨b, e, hf b hb, v, hx, ho, fun k hk => hf k (hv k hk)⟩⟩
/-- A block of another kind is none of the packer's. -/
theorem Pk.but {F : Nat → Prop} {w : World} {p : Value} {l : List UInt8} {err : Int} {g : Nat} {t : TypeId} {cs : Array Value} (h : Pk F w p l err) (hg : Box w g t cs) (h1 : 86 ≠ t) (h2 : 5 ≠ t) : Pk (fun k => F k ∧ k ≠ g) w p l err := by
  obtain ⟨h0, h | ⟨b, e, hb, v, hx, ho, hv⟩⟩ := h
  · exact ⟨h0, .inl h⟩
  · exact ⟨h0, .inr ⟨b, e, ⟨hb, hx.type_ne hg h1⟩, v, hx, ho, fun k hk => ⟨hv k hk, fun e => hg.own_ne ho h2 (by rw [hk, e])⟩⟩⟩
section
variable {F : Nat → Prop} {w : World} {p : Value} {l : List UInt8}
theorem p1 (h : Pk F w p l 0) (hF : ∀ k, w.heap.size ≤ k → F k) (n : Nat) (hn : n < 256) (hlen : l.length ≤ 100000) :
    Calls Try.prog 24 #[p, .int .i64 1, .int .u64 n] w fun e w' => e = .returned p ∧ Pk F w' p (l ++ beN 1 n) 0 ∧ Kp F w w' := by
  have := put_fine1 h hF n hn (by omega)
  rwa [putS0] at this
theorem p4 (h : Pk F w p l 0) (hF : ∀ k, w.heap.size ≤ k → F k) (n : Nat) (hn : n < 4294967296) (hlen : l.length ≤ 100000) :
    Calls Try.prog 24 #[p, .int .i64 4, .int .u64 n] w fun e w' => e = .returned p ∧ Pk F w' p (l ++ beN 4 n) 0 ∧ Kp F w w' := by
  have := put_fine4 h hF n hn (by omega)
  rwa [putS0] at this
theorem pname (h : Pk F w p l 0) (hF : ∀ k, w.heap.size ≤ k → F k) (s : ByteArray) (hs : s.size ≤ 255) (hlen : l.length ≤ 100000) :
    Calls Try.prog 47 #[p, .string s] w fun e w' => e = .returned p ∧ Pk F w' p (l ++ (beN 1 s.size ++ byt s)) 0 ∧ Kp F w w' := by
  have := name_fine h hF s hs (by omega)
  rw [putS0] at this
  have e : beN 1 s.size ++ byt s = UInt8.ofNat s.size :: tb s := by
    have : beN 1 s.size = [UInt8.ofNat s.size] := by simp [beN]; apply UInt8.toNat_inj.1; simp
    rw [this]
    rfl
  rwa [e]
theorem phash (h : Pk F w p l 0) (hF : ∀ k, w.heap.size ≤ k → F k) (s : List UInt8) (hs : s.length = 32) (hlen : l.length ≤ 100000) :
    Calls Try.prog 27 #[p, .agg (bcs s).toArray] w fun e w' => e = .returned p ∧ Pk F w' p (l ++ s) 0 ∧ Kp F w w' := by
  have := hash_any h hF s hs (by omega)
  rwa [putS0] at this
theorem ptext (h : Pk F w p l 0) (hF : ∀ k, w.heap.size ≤ k → F k) (s : ByteArray) (hs : s.size ≤ 100000) (hlen : l.length ≤ 100000) :
    Calls Try.prog 28 #[p, .string s] w fun e w' => e = .returned p ∧ Pk F w' p (l ++ byt s) 0 ∧ Kp F w w' := by
  have := text_any h hF s (by omega)
  rwa [putS0] at this
end
set_option maxRecDepth 100000 in
set_option maxHeartbeats 2000000 in
theorem putEntry_any {F : Nat → Prop} (x : Kd) (p : Value) (l : List UInt8) (w : World) (h : Pk F w p l 0) (hF : ∀ k, w.heap.size ≤ k → F k) (ho : x.Ok) (hs : x.name.size ≤ 16) (hl : l.length ≤ 90000) :
    Calls Try.prog 26 #[p, .agg (kcs x).toArray] w fun e w' => e = .returned (.tuple #[]) ∧ Pk F w' p (l ++ hdL x) 0 ∧ Kp F w w' := by
  obtain ⟨W, hW, b0, k0⟩ : ∃ W, W = w.alloc (.cells (kcs x).toArray 46) ∧ Box W w.heap.size 46 (kcs x).toArray ∧ Kp (fun _ => False) w W := ⟨_, rfl, Box.new w _ _, (Kp.refl _ w).alloc _⟩
  have HW := Lib.hid hW
  have K0 := Lib.hid k0
  have B0 := Lib.hid b0
  have P0 := Lib.hid ((h.still k0).but b0 (by decide) (by decide))
  have hlt := b0.lt
  have HF0 : Hid (∀ k, W.heap.size ≤ k → F k ∧ k ≠ w.heap.size) := Lib.hid fun k hk => ⟨hF k (by omega), by omega⟩
  have HO := Lib.hid ho
  have HFR := Lib.hid hF
  clear hW b0 k0 h hF ho hlt
  obtain ⟨d, hd⟩ : ∃ d, d = (if x.dir = true then 1 else 0 : Nat) := ⟨_, rfl⟩
  have hd2 : d < 256 := by rw [hd]; split <;> decide
  have HL : Hid (l ++ beN 1 d ++ (beN 1 x.name.size ++ byt x.name) = l ++ hdL x) := Lib.hid (by rw [hdL, hd]; simp)
  have y1 : W.cell? ⟨w.heap.size, 1, none⟩ = some (.bool x.dir) := (kid_cells B0.out.range' HO.out).2.1
  rcases hx : x.dir with _ | _
  all_goals
    rw [hx] at hd y1
    simp only [Bool.false_eq_true, if_false, if_true] at hd
    have HD := Lib.hid hd
    clear hx hd
    go_enter Try.func26, Try.ntmps26
    go_upto_region 1 with fail
    rw [← HW.out]
    go_upto_region 4 with fail
    clear y1
    refine wp_region_held_drew (S := fun v => v.cell? ⟨w.heap.size, 0, none⟩ = some (.string x.name)) (by kernel_rfl) ((kid_cells B0.out.range' HO.out).1) (fun hHeld => ?_)
    refine tk 0 (h := ?_)
    refine tk 1 (h := ?_)
    refine tk 3 (h := ?_)
    refine tk 4 (h := ?_)
    refine rd 2 (h := fun K hK => ?_)
    go_simp
    have hc := p1 (w := W.drew) (P0.out.still (Kp.refl _ W).drew) HF0.out d hd2 (by omega)
    obtain ⟨z, hz⟩ : ∃ z : Int, z = (d : Int) := ⟨_, rfl⟩
    rw [← hz] at hc
    first | (have hz' : z = 0 := (by rw [hz, HD.out]; rfl); rw [hz'] at hc; clear hz') | (have hz' : z = 1 := (by rw [hz, HD.out]; rfl); rw [hz'] at hc; clear hz')
    refine hc.mono ?_
    clear hc hz
    rintro e w1 ⟨rfl, hp, hk⟩
    have P1 := Lib.hid hp
    have K1 : Hid (Kp (fun k => F k ∧ k ≠ w.heap.size) W w1) := Lib.hid (((Kp.refl _ W).drew).trans hk)
    clear hp hk
    go_wp2_with fail
    refine hK.out _ _ ((kid_cells (B0.out.kp K1.out (fun e => e.2 rfl)).range' HO.out).1) (fun hHeld1 => ?_)
    clear hK K
    try simp only [Act.put, List.setIfInBounds_toArray, List.set_cons_zero, List.set_cons_succ]
    refine rd 5 (h := fun K hK => ?_)
    go_simp
    refine (pname P1.out (fun k hk => HF0.out k (by have := K1.out.size; omega)) x.name (by omega) (by rw [List.length_append, beN_length]; omega)).mono ?_
    rintro e w2 ⟨rfl, hp, hk⟩
    rw [HL.out] at hp
    have P2 := Lib.hid (hp.mono fun k h => h.1)
    have hk0 := hk
    have K2 : Hid (Kp F w w2) := Lib.hid ((K0.out.mono fun _ _ e => e.elim).trans ((K1.out.trans hk).mono fun k _ e => e.1))
    clear hp hk
    go_wp2_with fail
    refine hK.out _ _ ((kid_cells (B0.out.kp (K1.out.trans hk0) (fun e => e.2 rfl)).range' HO.out).1) (fun hHeld2 => ?_)
    clear hK K
    try simp only [Act.put, List.setIfInBounds_toArray, List.set_cons_zero, List.set_cons_succ]
    refine wpAnyH_done (by kernel_rfl) ?_ _
    go_wp2_with fail
    refine bodyPost_end (v := .tuple #[]) (by kernel_rfl) rfl ?_
    exact ⟨rfl, P2.out, K2.out⟩
set_option maxHeartbeats 1000000 in
theorem put_no (c : Ck) (A : Option Addr) (n : Nat) (w : World) (h : CkR w c A n) (hm : mayB c = false) :
    Calls Try.prog 11 #[.agg (ccs c A n)] w fun e w' => e = .returned (.tuple #[.slice none 0 0, .int .i64 2]) ∧ Kp (fun _ => False) w w' := by
  obtain ⟨W, hW, b0, k0⟩ : ∃ W, W = w.alloc (.cells (ccs c A n) 25) ∧ Box W w.heap.size 25 (ccs c A n) ∧ Kp (fun _ => False) w W := ⟨_, rfl, Box.new w _ _, (Kp.refl _ w).alloc _⟩
  have HW := Lib.hid hW
  have K0 := Lib.hid k0
  have B0 := Lib.hid b0
  have HR := Lib.hid (h.still k0)
  have HM := Lib.hid hm
  clear hW b0 k0 h hm
  go_enter Try.func11, Try.ntmps11
  go_upto_region 1 with fail
  rw [← HW.out]
  go_wp2_with (first | (refine wpList_load_mid rfl 25 (.tmp 1) rfl w.heap.size 0 rfl (ccs c A n).toList _ B0.out.range Try.underlying25 rfl (by kernel_rfl) ?_) | fail)
  refine (may_any c A n _ HR.out).mono ?_
  rintro e w1 ⟨rfl, k1⟩
  have K1 := Lib.hid (K0.out.trans k1)
  clear k1
  rw [HM.out]
  go_wp2_with fail
  go_ret2
  exact ⟨rfl, K1.out⟩
def PutEnd (c : Ck) (w : World) (e : Ending) (w' : World) : Prop := ∃ A n, e = .returned (.tuple #[.slice A (putL c).length n, .int .i64 0]) ∧ (putL c).length ≤ n ∧ n ≤ maxLen ∧ Rd w' A (putL c) ∧ (∀ a, A = some a → w.heap.size ≤ a.block) ∧ Kp (fun _ => False) w w'
theorem cnL_len (c : Ck) : (cnL c).length ≤ 2 := by unfold cnL; split <;> simp [beN_length]
theorem ksL_take {kind : Nat} {l : List Kd} {k : Nat} {x : Kd} (hx : l[k]? = some x) : ksL kind (l.take (k + 1)) = ksL kind (l.take k) ++ kdL kind x := by
  have hlt : k < l.length := (List.getElem?_eq_some_iff.1 hx).1
  rw [take_snoc _ _ hlt, ksL_snoc]
  rw [List.getElem?_eq_getElem hlt] at hx
  cases hx
  rfl
set_option maxRecDepth 100000 in
set_option maxHeartbeats 4000000 in
theorem put_yes (c : Ck) (A : Option Addr) (n : Nat) (w : World) (h : CkR w c A n) (hm : mayB c = true) :
    Calls Try.prog 11 #[.agg (ccs c A n)] w (PutEnd c w) := by
  obtain ⟨W, hW, b0, k0⟩ : ∃ W, W = w.alloc (.cells (ccs c A n) 25) ∧ Box W w.heap.size 25 (ccs c A n) ∧ Kp (fun _ => False) w W := ⟨_, rfl, Box.new w _ _, (Kp.refl _ w).alloc _⟩
  have HW := Lib.hid hW
  have K0 := Lib.hid k0
  have HF : Hid (∀ v, Kp (fun _ => False) W v → CkR v c A n ∧ Box v w.heap.size 25 (ccs c A n) ∧ v.cell? ⟨w.heap.size, 0, none⟩ = some (.int .u8 c.kind) ∧ v.cell? ⟨w.heap.size, 1, none⟩ = some (.string c.data) ∧ v.cell? ⟨w.heap.size, 2, none⟩ = some (.slice A c.kids.length n)) := Lib.hid fun v hv =>
    ⟨h.still (k0.trans hv), b0.kp hv (fun h => h), (b0.kp hv (fun h => h)).cell 0, (b0.kp hv (fun h => h)).cell 1, (b0.kp hv (fun h => h)).cell 2⟩
  have hkind := h.ok.1
  have HO := Lib.hid h.ok
  have HM := Lib.hid hm
  have hk6 : c.kids.length ≤ 6 := by rcases may_cases hm with ⟨_, h2, _⟩ | ⟨_, _, _, h2, _⟩ <;> simp_all
  have hd240 : c.data.size ≤ 240 := by
    rcases may_cases hm with ⟨_, _, h2⟩ | ⟨_, _, h2, _⟩
    · exact h2
    · rw [h2]; decide
  have HNM : Hid (∀ k ∈ c.kids, k.name.size ≤ 16) := Lib.hid (by
    rcases may_cases hm with ⟨_, h2, _⟩ | ⟨_, _, _, _, _, h2⟩
    · rw [h2]; intro k hk; cases hk
    · exact fun k hk => (h2 k hk).2)
  clear hW b0 k0 h hm
  go_enter Try.func11, Try.ntmps11
  go_upto_region 1 with fail
  rw [← HW.out]
  go_wp2_with (first | (refine wpList_load_mid rfl 25 (.tmp 1) rfl w.heap.size 0 rfl (ccs c A n).toList _ (HF.out W (Kp.refl _ _)).2.1.range Try.underlying25 rfl (by kernel_rfl) ?_) | fail)
  refine (may_any c A n _ (HF.out W (Kp.refl _ _)).1).mono ?_
  rintro e w2 ⟨rfl, k2⟩
  have K2 := Lib.hid k2
  clear k2
  rw [HM.out]
  go_upto_region 3 with fail
  refine wp_region_held_drew (S := fun v => v.cell? ⟨w.heap.size, 0, none⟩ = some (.int .u8 c.kind)) (by kernel_rfl) ((HF.out w2 K2.out).2.2.1) (fun hHeld => ?_)
  have hwk : IntKind.u64.wrap (c.kind : Int) = (c.kind : Int) := IntWalk.u64_in _ (by omega)
  refine tk 1 (h := ?_)
  refine tk 2 (h := ?_)
  refine tk 3 (h := ?_)
  refine rd 0 (h := fun K hK => ?_)
  go_simp
  refine (new_any (fun k => w2.heap.size ≤ k) w2.drew (Nat.le_refl _)).mono ?_
  rintro e w3 ⟨rfl, hp, hk⟩
  have P3 := Lib.hid (pk_mk hp)
  have K3 : Hid (Kp (fun k => w2.heap.size ≤ k) w2 w3) := Lib.hid (((Kp.refl _ w2).drew).trans (hk.mono fun _ _ h => h.elim))
  generalize Value.pointer (some ⟨w2.drew.heap.size, 0, none⟩) = pv at *
  clear hp hk
  go_wp2_with fail
  refine hK.out _ _ ((HF.out w3 (K2.out.trans (K3.out.fresh _))).2.2.1) (fun hHeld1 => ?_)
  clear hK K
  try simp only [Act.put, List.setIfInBounds_toArray, List.set_cons_zero, List.set_cons_succ]
  refine rd 4 (h := fun K hK => ?_)
  go_simp
  refine (p1 P3.out (fun k hk => by have := K3.out.size; omega) c.kind hkind (by simp)).mono ?_
  rintro e w4 ⟨rfl, hp, hk⟩
  have P4 := Lib.hid hp
  have K4 : Hid (Kp (fun k => w2.heap.size ≤ k) w2 w4) := Lib.hid (K3.out.trans hk)
  clear hp hk
  go_wp2_with fail
  refine hK.out _ _ ((HF.out w4 (K2.out.trans (K4.out.fresh _))).2.2.1) (fun hHeld2 => ?_)
  clear hK K
  try simp only [Act.put, List.setIfInBounds_toArray, List.set_cons_zero, List.set_cons_succ]
  refine tk 5 (h := ?_)
  refine wpAnyH_done (by kernel_rfl) ?_ _
  clear hwk hHeld hHeld1 hHeld2
  go_wp2_with (first | (refine wpList_load_mid rfl 25 (.tmp 1) rfl w.heap.size 0 rfl (ccs c A n).toList _ (HF.out w4 (K2.out.trans (K4.out.fresh _))).2.1.range Try.underlying25 rfl (by kernel_rfl) ?_) | fail)
  refine (leads_any c A n _).mono ?_
  rintro e w5 ⟨rfl, k5⟩
  have P5 := Lib.hid (P4.out.still k5)
  have K5 : Hid (Kp (fun k => w2.heap.size ≤ k) w2 w5) := Lib.hid (K4.out.trans (k5.mono fun _ _ e => e.elim))
  clear k5
  rcases hl : ldB c.kind with _ | _
  · have P6 : Hid (Pk (fun k => w2.heap.size ≤ k) w5 pv (cnL c) 0) := Lib.hid (by
      have := P5.out
      have e : cnL c = [] ++ beN 1 c.kind := by unfold cnL; rw [hl]; simp
      rw [e]
      exact this)
    have K6 := K5
    obtain ⟨_, _, z0, z1, z2⟩ := HF.out w5 (K2.out.trans (K5.out.fresh _))
    clear hl
    go_wp2_with fail
    clear z0 z1 z2
    go_loopw [26] (fun s26 wr => ∃ k : Nat, k ≤ c.kids.length ∧ s26 = .int .i64 k ∧ Pk (fun k => w2.heap.size ≤ k) wr pv (cnL c ++ ksL c.kind (c.kids.take k)) 0 ∧ Kp (fun k => w2.heap.size ≤ k) w2 wr) (fun s26 _ => c.kids.length - (Go.RowKit.intOf s26).toNat)
    case atStart => exact ⟨0, Nat.zero_le _, rfl, by simpa [ksL] using P6.out, K6.out⟩
    case round =>
      obtain ⟨k, hk, rfl, hp, hkp⟩ := hrel
      have PR := Lib.hid hp
      have KR := Lib.hid hkp
      clear hp hkp
      have hcl : (cnL c ++ ksL c.kind (c.kids.take k)).length ≤ 1000 := by
        have h1 := cnL_len c
        have h2 := ksL_len (kind := c.kind) (l := c.kids.take k) fun x hx => ⟨HO.out.2 x (List.mem_of_mem_take hx), HNM.out x (List.mem_of_mem_take hx)⟩
        rw [List.length_take] at h2
        rw [List.length_append]
        omega
      obtain ⟨L, hL⟩ : ∃ L, L = cnL c ++ ksL c.kind (c.kids.take k) := ⟨_, rfl⟩
      rw [← hL] at PR hcl
      have HLL := Lib.hid hL
      clear hL
      obtain ⟨_, _, z0, z1, z2⟩ := HF.out wr (K2.out.trans (KR.out.fresh _))
      by_cases hlt : k < c.kids.length
      · obtain ⟨x, hx⟩ : ∃ x, c.kids[k]? = some x := ⟨_, List.getElem?_eq_getElem hlt⟩
        obtain ⟨b, o, hA, hrg⟩ := (HF.out wr (K2.out.trans (KR.out.fresh _))).1.k.at hx
        have XO := Lib.hid (HO.out.2 x (List.mem_of_getElem? hx))
        have hnm := HNM.out x (List.mem_of_getElem? hx)
        obtain ⟨p, hp⟩ : ∃ p, o + k * 36 = p := ⟨_, rfl⟩
        rw [show o + 36 * k = p by omega] at hrg
        have RG := Lib.hid hrg
        have HN : Hid (cnL c ++ ksL c.kind (c.kids.take (k + 1)) = L ++ kdL c.kind x) := Lib.hid (by rw [ksL_take hx, HLL.out, List.append_assoc])
        clear hrg hx z1 z2
        rw [hA]
        by_cases h3 : c.kind = 3
        · have d3 : ((c.kind : Int) == 3) = true := by simp; omega
          have HN3 : Hid (L ++ kdL c.kind x = L ++ hdL x ++ x.hash ++ beN 1 x.ht ++ beN 4 x.sz) := Lib.hid (by unfold kdL tlL; rw [if_pos h3]; simp)
          clear h3
          go_wp2_with (first | (refine wpList_load_mid rfl 46 (.tmp 28) rfl b p rfl (kcs x) _ RG.out Try.underlying46 rfl (by rw [kcs_len XO.out]; kernel_rfl) ?_) | (refine wpList_new rfl rfl 46 rfl (.tmp 6) (.tmp 29) rfl zKid (kcs x) (kcs_len XO.out) (fun _ => rfl) (fun _ => rfl) (kcs_one x) ?_; intro w7 g7 hg7 hb7 hk7; have HB7 := Lib.hid hb7; have P7 := Lib.hid ((PR.out.still hk7).but hb7 (by decide) (by decide)); have K7 : Hid (Kp (fun k => w2.heap.size ≤ k) w2 w7) := Lib.hid (KR.out.trans (hk7.mono fun _ _ e => e.elim)); have u0 : w7.cell? ⟨w.heap.size, 0, none⟩ = some (.int .u8 c.kind) := (HF.out w7 (K2.out.trans (K7.out.fresh _))).2.2.1; clear hk7 hg7 hb7) | (refine wpList_load_mid rfl 46 (.tmp 6) rfl g7 0 rfl (kcs x) _ HB7.out.range' Try.underlying46 rfl (by rw [kcs_len XO.out]; kernel_rfl) ?_) | fail)
          have HG7 : Hid (∀ k, w7.heap.size ≤ k → w2.heap.size ≤ k ∧ k ≠ g7) := Lib.hid fun k hk => ⟨by have := K7.out.size; omega, by have := HB7.out.lt; omega⟩
          refine (putEntry_any x pv L w7 P7.out HG7.out XO.out hnm (by omega)).mono ?_
          rintro e w8 ⟨rfl, hp, hk⟩
          have P8 := Lib.hid hp
          have HB8 := Lib.hid (HB7.out.kp hk (fun e => e.2 rfl))
          have K8 : Hid (Kp (fun k => w2.heap.size ≤ k) w2 w8) := Lib.hid (K7.out.trans (hk.mono fun _ _ e => e.1))
          have HF8 : Hid (∀ k, w8.heap.size ≤ k → w2.heap.size ≤ k ∧ k ≠ g7) := Lib.hid fun k h => HG7.out k (by have := hk.size; omega)
          have hll : (L ++ hdL x).length ≤ 2000 := by simp only [List.length_append, hdL, beN_length, byt_len]; omega
          clear hp hk u0 d3
          go_upto_region 11 with fail
          refine wp_region_held_drew (S := fun v => Box v g7 46 (kcs x).toArray) (by kernel_rfl) (HB8.out.drew) (fun hHeld => ?_)
          have hwh : IntKind.u64.wrap (x.ht : Int) = (x.ht : Int) := IntWalk.u64_in _ (by have := XO.out.2.1; omega)
          have hws : IntKind.u64.wrap (x.sz : Int) = (x.sz : Int) := IntWalk.u64_in _ (by have := XO.out.2.2; omega)
          refine tk 0 (h := ?_)
          refine tk 1 (h := ?_)
          refine tk 2 (hy := fun v hv => nexec_load 43 (.tmp 37) rfl g7 2 rfl (bcs x.hash) _ (kid_cells (Box.range' hv) XO.out).2.2.2.2 Try.underlying43 rfl (by rw [bcs_length, XO.out.1]; kernel_rfl)) (h := ?_)
          refine tk 4 (h := ?_)
          refine tk 5 (hy := fun v hv => by (have y : v.cell? ⟨g7, 34, none⟩ = some (.int .u8 x.ht) := (kid_cells (Box.range' hv) XO.out).2.2.1; go_simp; with_reducible rfl)) (h := ?_)
          refine tk 6 (h := ?_)
          refine tk 8 (h := ?_)
          refine tk 9 (hy := fun v hv => by (have y : v.cell? ⟨g7, 35, none⟩ = some (.int .u32 x.sz) := (kid_cells (Box.range' hv) XO.out).2.2.2.1; go_simp; with_reducible rfl)) (h := ?_)
          refine tk 10 (h := ?_)
          refine rd 3 (h := fun K hK => ?_)
          go_simp
          refine (phash (w := w8.drew) (P8.out.still (Kp.refl _ w8).drew) HF8.out x.hash XO.out.1 (by omega)).mono ?_
          rintro e w9 ⟨rfl, hp, hk⟩
          have P9 := Lib.hid hp
          have K9 : Hid (Kp (fun k => w2.heap.size ≤ k ∧ k ≠ g7) w8 w9) := Lib.hid ((Kp.refl _ w8).drew.trans hk)
          clear hp hk
          go_wp2_with fail
          refine hK.out _ _ (HB8.out.kp K9.out (fun e => e.2 rfl)) (fun hHeld1 => ?_)
          clear hK K
          try simp only [Act.put, List.setIfInBounds_toArray, List.set_cons_zero, List.set_cons_succ]
          refine rd 7 (h := fun K hK => ?_)
          go_simp
          refine (p1 P9.out (fun k hk => HF8.out k (by have := K9.out.size; omega)) x.ht XO.out.2.1 (by rw [List.length_append, XO.out.1]; omega)).mono ?_
          rintro e w10 ⟨rfl, hp, hk⟩
          have P10 := Lib.hid hp
          have K10 : Hid (Kp (fun k => w2.heap.size ≤ k ∧ k ≠ g7) w8 w10) := Lib.hid (K9.out.trans hk)
          clear hp hk
          go_wp2_with fail
          refine hK.out _ _ (HB8.out.kp K10.out (fun e => e.2 rfl)) (fun hHeld2 => ?_)
          clear hK K
          try simp only [Act.put, List.setIfInBounds_toArray, List.set_cons_zero, List.set_cons_succ]
          refine rd 11 (h := fun K hK => ?_)
          go_simp
          refine (p4 P10.out (fun k hk => HF8.out k (by have := K10.out.size; omega)) x.sz XO.out.2.2 (by rw [List.length_append, List.length_append, XO.out.1, beN_length]; omega)).mono ?_
          rintro e w11 ⟨rfl, hp, hk⟩
          rw [← HN3.out, ← HN.out] at hp
          have P11 := Lib.hid (hp.mono fun _ e => e.1)
          have K11' : Hid (Kp (fun k => w2.heap.size ≤ k ∧ k ≠ g7) w8 w11) := Lib.hid (K10.out.trans hk)
          have K11 : Hid (Kp (fun k => w2.heap.size ≤ k) w2 w11) := Lib.hid (K8.out.trans (K11'.out.mono fun _ _ e => e.1))
          clear hp hk
          go_wp2_with fail
          refine hK.out _ _ (HB8.out.kp K11'.out (fun e => e.2 rfl)) (fun hHeld3 => ?_)
          clear hK K
          try simp only [Act.put, List.setIfInBounds_toArray, List.set_cons_zero, List.set_cons_succ]
          refine wpAnyH_done (by kernel_rfl) ?_ _
          clear hwh hws hHeld hHeld1 hHeld2 hHeld3
          go_wp2_with fail
          go_roundw
          case rel => exact ⟨k + 1, by omega, by go_num, P11.out, K11.out⟩
          case measure => simp [Go.RowKit.intOf]; omega
        · have d3 : ((c.kind : Int) == 3) = false := by simp; omega
          have HN3 : Hid (L ++ kdL c.kind x = L ++ x.hash ++ beN 1 x.ht ++ beN 4 x.sz) := Lib.hid (by unfold kdL tlL; rw [if_neg h3]; simp)
          clear h3
          go_upto_region 11 with (first | (refine wpList_load_mid rfl 46 (.tmp 28) rfl b p rfl (kcs x) _ RG.out Try.underlying46 rfl (by rw [kcs_len XO.out]; kernel_rfl) ?_) | (refine wpList_new rfl rfl 46 rfl (.tmp 6) (.tmp 29) rfl zKid (kcs x) (kcs_len XO.out) (fun _ => rfl) (fun _ => rfl) (kcs_one x) ?_; intro w8 g7 hg7 hb7 hk7; have HB8 := Lib.hid hb7; have P8 := Lib.hid ((PR.out.still hk7).but hb7 (by decide) (by decide)); have K8 : Hid (Kp (fun k => w2.heap.size ≤ k) w2 w8) := Lib.hid (KR.out.trans (hk7.mono fun _ _ e => e.elim)); have u0 : w8.cell? ⟨w.heap.size, 0, none⟩ = some (.int .u8 c.kind) := (HF.out w8 (K2.out.trans (K8.out.fresh _))).2.2.1; clear hk7 hg7 hb7) | fail)
          have HF8 : Hid (∀ k, w8.heap.size ≤ k → w2.heap.size ≤ k ∧ k ≠ g7) := Lib.hid fun k hk => ⟨by have := K8.out.size; omega, by have := HB8.out.lt; omega⟩
          have hll : L.length ≤ 2000 := by omega
          clear u0 d3
          go_upto_region 11 with fail
          refine wp_region_held_drew (S := fun v => Box v g7 46 (kcs x).toArray) (by kernel_rfl) (HB8.out.drew) (fun hHeld => ?_)
          have hwh : IntKind.u64.wrap (x.ht : Int) = (x.ht : Int) := IntWalk.u64_in _ (by have := XO.out.2.1; omega)
          have hws : IntKind.u64.wrap (x.sz : Int) = (x.sz : Int) := IntWalk.u64_in _ (by have := XO.out.2.2; omega)
          refine tk 0 (h := ?_)
          refine tk 1 (h := ?_)
          refine tk 2 (hy := fun v hv => nexec_load 43 (.tmp 37) rfl g7 2 rfl (bcs x.hash) _ (kid_cells (Box.range' hv) XO.out).2.2.2.2 Try.underlying43 rfl (by rw [bcs_length, XO.out.1]; kernel_rfl)) (h := ?_)
          refine tk 4 (h := ?_)
          refine tk 5 (hy := fun v hv => by (have y : v.cell? ⟨g7, 34, none⟩ = some (.int .u8 x.ht) := (kid_cells (Box.range' hv) XO.out).2.2.1; go_simp; with_reducible rfl)) (h := ?_)
          refine tk 6 (h := ?_)
          refine tk 8 (h := ?_)
          refine tk 9 (hy := fun v hv => by (have y : v.cell? ⟨g7, 35, none⟩ = some (.int .u32 x.sz) := (kid_cells (Box.range' hv) XO.out).2.2.2.1; go_simp; with_reducible rfl)) (h := ?_)
          refine tk 10 (h := ?_)
          refine rd 3 (h := fun K hK => ?_)
          go_simp
          refine (phash (w := w8.drew) (P8.out.still (Kp.refl _ w8).drew) HF8.out x.hash XO.out.1 (by omega)).mono ?_
          rintro e w9 ⟨rfl, hp, hk⟩
          have P9 := Lib.hid hp
          have K9 : Hid (Kp (fun k => w2.heap.size ≤ k ∧ k ≠ g7) w8 w9) := Lib.hid ((Kp.refl _ w8).drew.trans hk)
          clear hp hk
          go_wp2_with fail
          refine hK.out _ _ (HB8.out.kp K9.out (fun e => e.2 rfl)) (fun hHeld1 => ?_)
          clear hK K
          try simp only [Act.put, List.setIfInBounds_toArray, List.set_cons_zero, List.set_cons_succ]
          refine rd 7 (h := fun K hK => ?_)
          go_simp
          refine (p1 P9.out (fun k hk => HF8.out k (by have := K9.out.size; omega)) x.ht XO.out.2.1 (by rw [List.length_append, XO.out.1]; omega)).mono ?_
          rintro e w10 ⟨rfl, hp, hk⟩
          have P10 := Lib.hid hp
          have K10 : Hid (Kp (fun k => w2.heap.size ≤ k ∧ k ≠ g7) w8 w10) := Lib.hid (K9.out.trans hk)
          clear hp hk
          go_wp2_with fail
          refine hK.out _ _ (HB8.out.kp K10.out (fun e => e.2 rfl)) (fun hHeld2 => ?_)
          clear hK K
          try simp only [Act.put, List.setIfInBounds_toArray, List.set_cons_zero, List.set_cons_succ]
          refine rd 11 (h := fun K hK => ?_)
          go_simp
          refine (p4 P10.out (fun k hk => HF8.out k (by have := K10.out.size; omega)) x.sz XO.out.2.2 (by rw [List.length_append, List.length_append, XO.out.1, beN_length]; omega)).mono ?_
          rintro e w11 ⟨rfl, hp, hk⟩
          rw [← HN3.out, ← HN.out] at hp
          have P11 := Lib.hid (hp.mono fun _ e => e.1)
          have K11' : Hid (Kp (fun k => w2.heap.size ≤ k ∧ k ≠ g7) w8 w11) := Lib.hid (K10.out.trans hk)
          have K11 : Hid (Kp (fun k => w2.heap.size ≤ k) w2 w11) := Lib.hid (K8.out.trans (K11'.out.mono fun _ _ e => e.1))
          clear hp hk
          go_wp2_with fail
          refine hK.out _ _ (HB8.out.kp K11'.out (fun e => e.2 rfl)) (fun hHeld3 => ?_)
          clear hK K
          try simp only [Act.put, List.setIfInBounds_toArray, List.set_cons_zero, List.set_cons_succ]
          refine wpAnyH_done (by kernel_rfl) ?_ _
          clear hwh hws hHeld hHeld1 hHeld2 hHeld3
          go_wp2_with fail
          go_roundw
          case rel => exact ⟨k + 1, by omega, by go_num, P11.out, K11.out⟩
          case measure => simp [Go.RowKit.intOf]; omega
      · obtain rfl : k = c.kids.length := by omega
        rw [List.take_length] at HLL
        clear hlt hk z0 z2
        go_wp2_with fail
        refine (ptext PR.out (fun k hk => by have := KR.out.size; omega) c.data (by omega) (by omega)).mono ?_
        rintro e w8 ⟨rfl, hp, hk⟩
        have HPL : Hid (L ++ byt c.data = putL c) := Lib.hid (by rw [HLL.out]; simp [putL])
        rw [HPL.out] at hp
        have P8 := Lib.hid hp
        have hpl : (putL c).length ≤ 332 := put_len HM.out HO.out
        have K8 : Hid (Kp (fun _ => False) w w8) := Lib.hid (K0.out.trans (K2.out.trans ((KR.out.trans hk).fresh _)))
        have HSZ : Hid (w.heap.size ≤ w8.heap.size) := Lib.hid K8.out.size
        clear hp hk z1
        go_wp2_with fail
        refine (bytes_any P8.out (by omega)).mono ?_
        rintro e w9 ⟨A9, n9, rfl, h1, h2, h3, h4, h5⟩
        have HE : Hid (PutEnd c w (.returned (.tuple #[.slice A9 (putL c).length n9, .int .i64 0])) w9) := Lib.hid ⟨A9, n9, rfl, h1, h2, h3, fun a ha => by have := h4 a ha; have := HSZ.out; omega, K8.out.trans h5⟩
        clear h1 h2 h3 h4 h5
        go_wp2_with fail
        go_ret2
        exact HE.out
  · have hwn : IntKind.u64.wrap (c.kids.length : Int) = (c.kids.length : Int) := IntWalk.u64_in _ (by omega)
    have HLD := Lib.hid hl
    obtain ⟨_, _, z0, z1, z2⟩ := HF.out w5 (K2.out.trans (K5.out.fresh _))
    clear hl
    go_wp2_with fail
    refine (p1 P5.out (fun k hk => by have := K5.out.size; omega) c.kids.length (by omega) (by rw [List.length_append, beN_length]; simp)).mono ?_
    rintro e w6 ⟨rfl, hp, hk⟩
    have P6 : Hid (Pk (fun k => w2.heap.size ≤ k) w6 pv (cnL c) 0) := Lib.hid (by
      have e : cnL c = [] ++ beN 1 c.kind ++ beN 1 c.kids.length := by unfold cnL; rw [HLD.out]; simp
      rw [e]
      exact hp)
    have K6 : Hid (Kp (fun k => w2.heap.size ≤ k) w2 w6) := Lib.hid (K5.out.trans hk)
    clear hp hk hwn z0 z1 z2
    obtain ⟨_, _, z0, z1, z2⟩ := HF.out w6 (K2.out.trans (K6.out.fresh _))
    go_wp2_with fail
    clear z0 z1 z2
    go_loopw [26] (fun s26 wr => ∃ k : Nat, k ≤ c.kids.length ∧ s26 = .int .i64 k ∧ Pk (fun k => w2.heap.size ≤ k) wr pv (cnL c ++ ksL c.kind (c.kids.take k)) 0 ∧ Kp (fun k => w2.heap.size ≤ k) w2 wr) (fun s26 _ => c.kids.length - (Go.RowKit.intOf s26).toNat)
    case atStart => exact ⟨0, Nat.zero_le _, rfl, by simpa [ksL] using P6.out, K6.out⟩
    case round =>
      obtain ⟨k, hk, rfl, hp, hkp⟩ := hrel
      have PR := Lib.hid hp
      have KR := Lib.hid hkp
      clear hp hkp
      have hcl : (cnL c ++ ksL c.kind (c.kids.take k)).length ≤ 1000 := by
        have h1 := cnL_len c
        have h2 := ksL_len (kind := c.kind) (l := c.kids.take k) fun x hx => ⟨HO.out.2 x (List.mem_of_mem_take hx), HNM.out x (List.mem_of_mem_take hx)⟩
        rw [List.length_take] at h2
        rw [List.length_append]
        omega
      obtain ⟨L, hL⟩ : ∃ L, L = cnL c ++ ksL c.kind (c.kids.take k) := ⟨_, rfl⟩
      rw [← hL] at PR hcl
      have HLL := Lib.hid hL
      clear hL
      obtain ⟨_, _, z0, z1, z2⟩ := HF.out wr (K2.out.trans (KR.out.fresh _))
      by_cases hlt : k < c.kids.length
      · obtain ⟨x, hx⟩ : ∃ x, c.kids[k]? = some x := ⟨_, List.getElem?_eq_getElem hlt⟩
        obtain ⟨b, o, hA, hrg⟩ := (HF.out wr (K2.out.trans (KR.out.fresh _))).1.k.at hx
        have XO := Lib.hid (HO.out.2 x (List.mem_of_getElem? hx))
        have hnm := HNM.out x (List.mem_of_getElem? hx)
        obtain ⟨p, hp⟩ : ∃ p, o + k * 36 = p := ⟨_, rfl⟩
        rw [show o + 36 * k = p by omega] at hrg
        have RG := Lib.hid hrg
        have HN : Hid (cnL c ++ ksL c.kind (c.kids.take (k + 1)) = L ++ kdL c.kind x) := Lib.hid (by rw [ksL_take hx, HLL.out, List.append_assoc])
        clear hrg hx z1 z2
        rw [hA]
        by_cases h3 : c.kind = 3
        · have d3 : ((c.kind : Int) == 3) = true := by simp; omega
          have HN3 : Hid (L ++ kdL c.kind x = L ++ hdL x ++ x.hash ++ beN 1 x.ht ++ beN 4 x.sz) := Lib.hid (by unfold kdL tlL; rw [if_pos h3]; simp)
          clear h3
          go_wp2_with (first | (refine wpList_load_mid rfl 46 (.tmp 28) rfl b p rfl (kcs x) _ RG.out Try.underlying46 rfl (by rw [kcs_len XO.out]; kernel_rfl) ?_) | (refine wpList_new rfl rfl 46 rfl (.tmp 6) (.tmp 29) rfl zKid (kcs x) (kcs_len XO.out) (fun _ => rfl) (fun _ => rfl) (kcs_one x) ?_; intro w7 g7 hg7 hb7 hk7; have HB7 := Lib.hid hb7; have P7 := Lib.hid ((PR.out.still hk7).but hb7 (by decide) (by decide)); have K7 : Hid (Kp (fun k => w2.heap.size ≤ k) w2 w7) := Lib.hid (KR.out.trans (hk7.mono fun _ _ e => e.elim)); have u0 : w7.cell? ⟨w.heap.size, 0, none⟩ = some (.int .u8 c.kind) := (HF.out w7 (K2.out.trans (K7.out.fresh _))).2.2.1; clear hk7 hg7 hb7) | (refine wpList_load_mid rfl 46 (.tmp 6) rfl g7 0 rfl (kcs x) _ HB7.out.range' Try.underlying46 rfl (by rw [kcs_len XO.out]; kernel_rfl) ?_) | fail)
          have HG7 : Hid (∀ k, w7.heap.size ≤ k → w2.heap.size ≤ k ∧ k ≠ g7) := Lib.hid fun k hk => ⟨by have := K7.out.size; omega, by have := HB7.out.lt; omega⟩
          refine (putEntry_any x pv L w7 P7.out HG7.out XO.out hnm (by omega)).mono ?_
          rintro e w8 ⟨rfl, hp, hk⟩
          have P8 := Lib.hid hp
          have HB8 := Lib.hid (HB7.out.kp hk (fun e => e.2 rfl))
          have K8 : Hid (Kp (fun k => w2.heap.size ≤ k) w2 w8) := Lib.hid (K7.out.trans (hk.mono fun _ _ e => e.1))
          have HF8 : Hid (∀ k, w8.heap.size ≤ k → w2.heap.size ≤ k ∧ k ≠ g7) := Lib.hid fun k h => HG7.out k (by have := hk.size; omega)
          have hll : (L ++ hdL x).length ≤ 2000 := by simp only [List.length_append, hdL, beN_length, byt_len]; omega
          clear hp hk u0 d3
          go_upto_region 11 with fail
          refine wp_region_held_drew (S := fun v => Box v g7 46 (kcs x).toArray) (by kernel_rfl) (HB8.out.drew) (fun hHeld => ?_)
          have hwh : IntKind.u64.wrap (x.ht : Int) = (x.ht : Int) := IntWalk.u64_in _ (by have := XO.out.2.1; omega)
          have hws : IntKind.u64.wrap (x.sz : Int) = (x.sz : Int) := IntWalk.u64_in _ (by have := XO.out.2.2; omega)
          refine tk 0 (h := ?_)
          refine tk 1 (h := ?_)
          refine tk 2 (hy := fun v hv => nexec_load 43 (.tmp 37) rfl g7 2 rfl (bcs x.hash) _ (kid_cells (Box.range' hv) XO.out).2.2.2.2 Try.underlying43 rfl (by rw [bcs_length, XO.out.1]; kernel_rfl)) (h := ?_)
          refine tk 4 (h := ?_)
          refine tk 5 (hy := fun v hv => by (have y : v.cell? ⟨g7, 34, none⟩ = some (.int .u8 x.ht) := (kid_cells (Box.range' hv) XO.out).2.2.1; go_simp; with_reducible rfl)) (h := ?_)
          refine tk 6 (h := ?_)
          refine tk 8 (h := ?_)
          refine tk 9 (hy := fun v hv => by (have y : v.cell? ⟨g7, 35, none⟩ = some (.int .u32 x.sz) := (kid_cells (Box.range' hv) XO.out).2.2.2.1; go_simp; with_reducible rfl)) (h := ?_)
          refine tk 10 (h := ?_)
          refine rd 3 (h := fun K hK => ?_)
          go_simp
          refine (phash (w := w8.drew) (P8.out.still (Kp.refl _ w8).drew) HF8.out x.hash XO.out.1 (by omega)).mono ?_
          rintro e w9 ⟨rfl, hp, hk⟩
          have P9 := Lib.hid hp
          have K9 : Hid (Kp (fun k => w2.heap.size ≤ k ∧ k ≠ g7) w8 w9) := Lib.hid ((Kp.refl _ w8).drew.trans hk)
          clear hp hk
          go_wp2_with fail
          refine hK.out _ _ (HB8.out.kp K9.out (fun e => e.2 rfl)) (fun hHeld1 => ?_)
          clear hK K
          try simp only [Act.put, List.setIfInBounds_toArray, List.set_cons_zero, List.set_cons_succ]
          refine rd 7 (h := fun K hK => ?_)
          go_simp
          refine (p1 P9.out (fun k hk => HF8.out k (by have := K9.out.size; omega)) x.ht XO.out.2.1 (by rw [List.length_append, XO.out.1]; omega)).mono ?_
          rintro e w10 ⟨rfl, hp, hk⟩
          have P10 := Lib.hid hp
          have K10 : Hid (Kp (fun k => w2.heap.size ≤ k ∧ k ≠ g7) w8 w10) := Lib.hid (K9.out.trans hk)
          clear hp hk
          go_wp2_with fail
          refine hK.out _ _ (HB8.out.kp K10.out (fun e => e.2 rfl)) (fun hHeld2 => ?_)
          clear hK K
          try simp only [Act.put, List.setIfInBounds_toArray, List.set_cons_zero, List.set_cons_succ]
          refine rd 11 (h := fun K hK => ?_)
          go_simp
          refine (p4 P10.out (fun k hk => HF8.out k (by have := K10.out.size; omega)) x.sz XO.out.2.2 (by rw [List.length_append, List.length_append, XO.out.1, beN_length]; omega)).mono ?_
          rintro e w11 ⟨rfl, hp, hk⟩
          rw [← HN3.out, ← HN.out] at hp
          have P11 := Lib.hid (hp.mono fun _ e => e.1)
          have K11' : Hid (Kp (fun k => w2.heap.size ≤ k ∧ k ≠ g7) w8 w11) := Lib.hid (K10.out.trans hk)
          have K11 : Hid (Kp (fun k => w2.heap.size ≤ k) w2 w11) := Lib.hid (K8.out.trans (K11'.out.mono fun _ _ e => e.1))
          clear hp hk
          go_wp2_with fail
          refine hK.out _ _ (HB8.out.kp K11'.out (fun e => e.2 rfl)) (fun hHeld3 => ?_)
          clear hK K
          try simp only [Act.put, List.setIfInBounds_toArray, List.set_cons_zero, List.set_cons_succ]
          refine wpAnyH_done (by kernel_rfl) ?_ _
          clear hwh hws hHeld hHeld1 hHeld2 hHeld3
          go_wp2_with fail
          go_roundw
          case rel => exact ⟨k + 1, by omega, by go_num, P11.out, K11.out⟩
          case measure => simp [Go.RowKit.intOf]; omega
        · have d3 : ((c.kind : Int) == 3) = false := by simp; omega
          have HN3 : Hid (L ++ kdL c.kind x = L ++ x.hash ++ beN 1 x.ht ++ beN 4 x.sz) := Lib.hid (by unfold kdL tlL; rw [if_neg h3]; simp)
          clear h3
          go_upto_region 11 with (first | (refine wpList_load_mid rfl 46 (.tmp 28) rfl b p rfl (kcs x) _ RG.out Try.underlying46 rfl (by rw [kcs_len XO.out]; kernel_rfl) ?_) | (refine wpList_new rfl rfl 46 rfl (.tmp 6) (.tmp 29) rfl zKid (kcs x) (kcs_len XO.out) (fun _ => rfl) (fun _ => rfl) (kcs_one x) ?_; intro w8 g7 hg7 hb7 hk7; have HB8 := Lib.hid hb7; have P8 := Lib.hid ((PR.out.still hk7).but hb7 (by decide) (by decide)); have K8 : Hid (Kp (fun k => w2.heap.size ≤ k) w2 w8) := Lib.hid (KR.out.trans (hk7.mono fun _ _ e => e.elim)); have u0 : w8.cell? ⟨w.heap.size, 0, none⟩ = some (.int .u8 c.kind) := (HF.out w8 (K2.out.trans (K8.out.fresh _))).2.2.1; clear hk7 hg7 hb7) | fail)
          have HF8 : Hid (∀ k, w8.heap.size ≤ k → w2.heap.size ≤ k ∧ k ≠ g7) := Lib.hid fun k hk => ⟨by have := K8.out.size; omega, by have := HB8.out.lt; omega⟩
          have hll : L.length ≤ 2000 := by omega
          clear u0 d3
          go_upto_region 11 with fail
          refine wp_region_held_drew (S := fun v => Box v g7 46 (kcs x).toArray) (by kernel_rfl) (HB8.out.drew) (fun hHeld => ?_)
          have hwh : IntKind.u64.wrap (x.ht : Int) = (x.ht : Int) := IntWalk.u64_in _ (by have := XO.out.2.1; omega)
          have hws : IntKind.u64.wrap (x.sz : Int) = (x.sz : Int) := IntWalk.u64_in _ (by have := XO.out.2.2; omega)
          refine tk 0 (h := ?_)
          refine tk 1 (h := ?_)
          refine tk 2 (hy := fun v hv => nexec_load 43 (.tmp 37) rfl g7 2 rfl (bcs x.hash) _ (kid_cells (Box.range' hv) XO.out).2.2.2.2 Try.underlying43 rfl (by rw [bcs_length, XO.out.1]; kernel_rfl)) (h := ?_)
          refine tk 4 (h := ?_)
          refine tk 5 (hy := fun v hv => by (have y : v.cell? ⟨g7, 34, none⟩ = some (.int .u8 x.ht) := (kid_cells (Box.range' hv) XO.out).2.2.1; go_simp; with_reducible rfl)) (h := ?_)
          refine tk 6 (h := ?_)
          refine tk 8 (h := ?_)
          refine tk 9 (hy := fun v hv => by (have y : v.cell? ⟨g7, 35, none⟩ = some (.int .u32 x.sz) := (kid_cells (Box.range' hv) XO.out).2.2.2.1; go_simp; with_reducible rfl)) (h := ?_)
          refine tk 10 (h := ?_)
          refine rd 3 (h := fun K hK => ?_)
          go_simp
          refine (phash (w := w8.drew) (P8.out.still (Kp.refl _ w8).drew) HF8.out x.hash XO.out.1 (by omega)).mono ?_
          rintro e w9 ⟨rfl, hp, hk⟩
          have P9 := Lib.hid hp
          have K9 : Hid (Kp (fun k => w2.heap.size ≤ k ∧ k ≠ g7) w8 w9) := Lib.hid ((Kp.refl _ w8).drew.trans hk)
          clear hp hk
          go_wp2_with fail
          refine hK.out _ _ (HB8.out.kp K9.out (fun e => e.2 rfl)) (fun hHeld1 => ?_)
          clear hK K
          try simp only [Act.put, List.setIfInBounds_toArray, List.set_cons_zero, List.set_cons_succ]
          refine rd 7 (h := fun K hK => ?_)
          go_simp
          refine (p1 P9.out (fun k hk => HF8.out k (by have := K9.out.size; omega)) x.ht XO.out.2.1 (by rw [List.length_append, XO.out.1]; omega)).mono ?_
          rintro e w10 ⟨rfl, hp, hk⟩
          have P10 := Lib.hid hp
          have K10 : Hid (Kp (fun k => w2.heap.size ≤ k ∧ k ≠ g7) w8 w10) := Lib.hid (K9.out.trans hk)
          clear hp hk
          go_wp2_with fail
          refine hK.out _ _ (HB8.out.kp K10.out (fun e => e.2 rfl)) (fun hHeld2 => ?_)
          clear hK K
          try simp only [Act.put, List.setIfInBounds_toArray, List.set_cons_zero, List.set_cons_succ]
          refine rd 11 (h := fun K hK => ?_)
          go_simp
          refine (p4 P10.out (fun k hk => HF8.out k (by have := K10.out.size; omega)) x.sz XO.out.2.2 (by rw [List.length_append, List.length_append, XO.out.1, beN_length]; omega)).mono ?_
          rintro e w11 ⟨rfl, hp, hk⟩
          rw [← HN3.out, ← HN.out] at hp
          have P11 := Lib.hid (hp.mono fun _ e => e.1)
          have K11' : Hid (Kp (fun k => w2.heap.size ≤ k ∧ k ≠ g7) w8 w11) := Lib.hid (K10.out.trans hk)
          have K11 : Hid (Kp (fun k => w2.heap.size ≤ k) w2 w11) := Lib.hid (K8.out.trans (K11'.out.mono fun _ _ e => e.1))
          clear hp hk
          go_wp2_with fail
          refine hK.out _ _ (HB8.out.kp K11'.out (fun e => e.2 rfl)) (fun hHeld3 => ?_)
          clear hK K
          try simp only [Act.put, List.setIfInBounds_toArray, List.set_cons_zero, List.set_cons_succ]
          refine wpAnyH_done (by kernel_rfl) ?_ _
          clear hwh hws hHeld hHeld1 hHeld2 hHeld3
          go_wp2_with fail
          go_roundw
          case rel => exact ⟨k + 1, by omega, by go_num, P11.out, K11.out⟩
          case measure => simp [Go.RowKit.intOf]; omega
      · obtain rfl : k = c.kids.length := by omega
        rw [List.take_length] at HLL
        clear hlt hk z0 z2
        go_wp2_with fail
        refine (ptext PR.out (fun k hk => by have := KR.out.size; omega) c.data (by omega) (by omega)).mono ?_
        rintro e w8 ⟨rfl, hp, hk⟩
        have HPL : Hid (L ++ byt c.data = putL c) := Lib.hid (by rw [HLL.out]; simp [putL])
        rw [HPL.out] at hp
        have P8 := Lib.hid hp
        have hpl : (putL c).length ≤ 332 := put_len HM.out HO.out
        have K8 : Hid (Kp (fun _ => False) w w8) := Lib.hid (K0.out.trans (K2.out.trans ((KR.out.trans hk).fresh _)))
        have HSZ : Hid (w.heap.size ≤ w8.heap.size) := Lib.hid K8.out.size
        clear hp hk z1
        go_wp2_with fail
        refine (bytes_any P8.out (by omega)).mono ?_
        rintro e w9 ⟨A9, n9, rfl, h1, h2, h3, h4, h5⟩
        have HE : Hid (PutEnd c w (.returned (.tuple #[.slice A9 (putL c).length n9, .int .i64 0])) w9) := Lib.hid ⟨A9, n9, rfl, h1, h2, h3, fun a ha => by have := h4 a ha; have := HSZ.out; omega, K8.out.trans h5⟩
        clear h1 h2 h3 h4 h5
        go_wp2_with fail
        go_ret2
        exact HE.out
end Go.Proofs.Ytoonihhjdmkflaa
