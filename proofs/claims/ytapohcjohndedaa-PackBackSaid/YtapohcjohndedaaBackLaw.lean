/- PackBack: what is put is taken as itself, whatever stands behind; put again it is the same bytes. It looks at most at 60 things, texts of 400 bytes and 2,000 bytes behind; beyond them it asks known bytes alone. -/
import Derived.Test.YtapohcjohndedaaBack
import Derived.Test.YtapohcjohndedaaWakes
import Derived.Deep.RegionHeld3
namespace Go.Proofs.Ytapohcjohndedaa
open Go.RowKit

theorem room2 {n m : Nat} (h : n ≤ 60 * 401) (hm : m ≤ 2000) : n + m ≤ 140737488355328 := by omega
theorem info_item : (Try.prog.info? 27).map (·.size) = some 4 := by kernel_rfl
theorem Box.range {w : World} {g : Nat} {t : TypeId} {cs : List Value} (h : Box w g t cs.toArray) : w.rangeAt g 0 cs := fun j v hv => by
  rw [Nat.zero_add, h.cell]
  simpa using hv
theorem step_load_row {P : Program} {ops : Array Oper} {o : Oper} {a : Act} {w : World} {K : Act → World → Prop} {Q : Exit → Act → World → Prop} {E : Prop} (hgd : o.guard = none) (ty : TypeId) (x : Operand) (ho : o.op = .load ty x)
    (g : Nat) (hx : a.eval x = .pointer (some ⟨g, 0, none⟩)) (t : TypeId) (cs : Array Value) (d : TypeDesc) (hg : Box w g t cs)
    (hu : P.underlying ty = some d) (hd : (match d with | .struct _ | .array _ _ => true | _ => false) = true) (hi : (P.info? ty).map (·.size) = some cs.size)
    (h : K (a.put o.dst (.agg cs)) w) : if Region.wanted o (yielded ops a.tmps) = true then Oper.wp P o a w K Q else E := by
  have hw : Region.wanted o (yielded ops a.tmps) = true := by simp [Region.wanted, hgd]
  rw [if_pos hw]
  exact wp_load_row ty x ho g hx t cs (0, 0) d hg hu hd hi h

set_option maxRecDepth 100000 in
set_option maxHeartbeats 400000 in
theorem pb_great {B : Nat} {A A2 : Option Addr} {l : List It} {bh : List UInt8} {w : World} (h : Its w B A l) (c c2 : Nat) (hc : l.length ≤ c) (hm : c ≤ maxLen) (hg : greatB l = true ∨ 2000 < bh.length) :
    Calls Try.prog 5 #[.slice A l.length c, .slice A2 bh.length c2] w fun e w' => e = .returned (.bool true) ∧ Kp (fun k => w.heap.size ≤ k) w w' := by
  have hcall := great_any h c hc hm
  have Hc := Lib.hid hcall
  clear hcall h hm hc
  rcases hgb : greatB l with _ | _
  · have h2 : 2000 < bh.length := by
      rcases hg with hg | hg
      · rw [hgb] at hg; cases hg
      · exact hg
    rw [hgb] at Hc
    clear hg hgb
    go_enter Try.func5, Try.ntmps5
    go_wp2_with fail
    refine Hc.out.mono ?_
    rintro e w1 ⟨rfl, rfl⟩
    go_wp2_with fail
    refine (wakes_true w).mono ?_
    rintro e w1 ⟨rfl, k1⟩
    have K1 := Lib.hid k1
    clear k1
    go_wp2_with fail
    go_ret
    exact ⟨rfl, K1.out.mono fun _ _ h => h.elim⟩
  · rw [hgb] at Hc
    clear hg hgb
    go_enter Try.func5, Try.ntmps5
    go_wp2_with fail
    refine Hc.out.mono ?_
    rintro e w1 ⟨rfl, rfl⟩
    go_wp2_with fail
    refine (wakes_true w).mono ?_
    rintro e w1 ⟨rfl, k1⟩
    have K1 := Lib.hid k1
    clear k1
    go_wp2_with fail
    go_ret
    exact ⟨rfl, K1.out.mono fun _ _ h => h.elim⟩

set_option maxRecDepth 100000 in
set_option maxHeartbeats 4000000 in
theorem pb_small {B : Nat} {A A2 : Option Addr} {l : List It} {bh : List UInt8} {w : World} (h : Its w B A l) (hB : B ≤ w.heap.size) (c c2 : Nat) (hc : l.length ≤ c) (hm : c ≤ maxLen) (hg : greatB l = false) (hr : Rd w A2 bh) (hb2 : bh.length ≤ 2000) :
    Calls Try.prog 5 #[.slice A l.length c, .slice A2 bh.length c2] w fun e w' => e = .returned (.bool true) ∧ Kp (fun k => w.heap.size ≤ k) w w' := by
  obtain ⟨hl60, hl400⟩ := not_great hg
  have hcall := great_any h c hc hm
  rw [hg] at hcall
  have hpu := puts_any h hB hg c
  obtain ⟨C, hC⟩ : ∃ C, C = w.heap.size := ⟨_, rfl⟩
  rw [← hC] at hpu ⊢
  have H := Lib.hid h
  have HB := Lib.hid hB
  have HC := Lib.hid hC
  have H4 := Lib.hid hl400
  have Hc := Lib.hid hcall
  have Hpu := Lib.hid hpu
  have Hr := Lib.hid hr
  have hlen2 : (putAll l).1.length ≤ 60 * 401 := by
    have := putAll_le l hl400 l.length (Nat.le_refl _)
    rw [List.take_length] at this
    exact Nat.le_trans this (Nat.mul_le_mul_right 401 hl60)
  have Hl2 := Lib.hid hlen2
  clear h hB hg hC hl400 hcall hm hc hpu hr hlen2
  obtain ⟨i0, hi, hz0, hz1, hz2⟩ := info_parts info_byte
  go_enter Try.func5, Try.ntmps5
  go_wp2_with fail
  refine Hc.out.mono ?_
  rintro e w1 ⟨rfl, rfl⟩
  go_wp2_with fail
  refine Hpu.out.mono ?_
  rintro e w1 ⟨p, rfl, hp1, k1⟩
  have P1 := Lib.hid hp1
  have K1 := Lib.hid k1
  clear hp1 k1
  go_wp2_with fail
  refine (bytes_any P1.out (Nat.le_trans Hl2.out (by decide))).mono ?_
  rintro e wB ⟨Ab, cb, rfl, _, _, hrb, hAb, k2⟩
  have KB := Lib.hid (K1.out.trans (k2.mono fun _ _ h => h.elim))
  have Hrb := Lib.hid hrb
  clear k2 hrb hAb
  by_cases he : (putAll l).2 = 0
  · obtain ⟨hall, heq⟩ := putAll_ok he
    rw [heq] at Hrb Hl2 P1 ⊢
    simp only at Hrb Hl2 P1 ⊢
    have Hall := Lib.hid hall
    have Heq := Lib.hid heq
    clear hall heq he
    have HrB : Hid (Rd wB A2 bh) := Hr.out.kp_new KB.out (fun k hk => by rw [← HC.out]; exact hk)
    go_wp2_with (first | (at_builtin; refine wpList_put _ rfl (.const (.slice none 0 0)) (.tmp 39) 33 rfl 5 i0 Try.underlying33 hi hz0 hz1 hz2 (.slice none 0 0) rfl [] (encs l) (World.ownsRow_nil _ _ _ _) Ab _ cb rfl rfl Hrb.out ?c1 ?_))
    case c1 => simp only [List.length_nil, Nat.zero_add]; exact Nat.le_trans Hl2.out (by decide)
    intro v1 w1 hown1 hg1 hat1
    have hk1 : Kp (fun _ => False) wB w1 := (Kp.refl _ wB).grown hg1 (fun k h => by cases h)
    have Hown1 := Lib.hid hown1
    have Hk1 := Lib.hid hk1
    have Hat1 : Hid (∀ k, v1.ownBlock = some k → wB.heap.size ≤ k) := by
      intro k hk
      rcases hat1 with e | e <;> rw [e] at hk <;> simp [Value.ownBlock] at hk
      omega
    have Hr1 : Hid (Rd w1 A2 bh) := HrB.out.kp_new hk1 (fun _ h => h.elim)
    clear hown1 hg1 hat1 hk1
    go_wp2_with (first | (at_builtin; refine wpList_put _ rfl (.tmp 40) (.tmp 41) 33 rfl 5 i0 Try.underlying33 hi hz0 hz1 hz2 v1 rfl (encs l) bh Hown1.out A2 _ c2 rfl rfl Hr1.out ?c2 ?_))
    case c2 => exact room2 Hl2.out hb2
    intro v2 w2 hown2 hg2 hat2
    obtain ⟨A3, c3, rfl⟩ := own_shape hown2
    have hr3 := Rd.of_own hown2
    have hk2 : Kp (fun _ => False) wB w2 := Hk1.out.grown hg2 (fun k h => .inl (Hat1.out k h))
    have Hr3 := Lib.hid hr3
    have Hk2 := Lib.hid hk2
    clear hown2 hg2 hat2 hr3 hk2
    go_wp2_with fail
    refine (of_any (fun k => wB.heap.size ≤ k) w2 (fun k hk => Nat.le_trans Hk2.out.size hk) A3 _ c3 (encs l ++ bh) (by simp) Hr3.out (by rw [List.length_append]; exact room2 Hl2.out hb2)).mono ?_
    rintro e w3 ⟨bo, rfl, hbo, ho, hk3⟩
    have Hk3 : Hid (Kp (fun k => wB.heap.size ≤ k) wB w3) := (Hk2.out.trans hk3).mono fun _ _ h => h.elim
    have Ho3 := Lib.hid ho.old
    have hbo2 : wB.heap.size ≤ bo := ho.1
    have hbo3 : bo < w3.heap.size := by obtain ⟨_, _, _, _, hx, _⟩ := ho; exact hx.lt
    clear ho hk3 hbo
    go_wp2_with fail
    refine (new_any (fun k => w3.heap.size ≤ k) w3 (Nat.le_refl _)).mono ?_
    rintro e w4 ⟨rfl, hp, hk4⟩
    obtain ⟨q, hqq⟩ : ∃ q, q = Value.pointer (some ⟨w3.heap.size, 0, none⟩) := ⟨_, rfl⟩
    have h4 : Pk (fun k => w3.heap.size ≤ k) w4 q [] 0 := ⟨fun h => absurd rfl h, .inr ⟨_, hqq, hp⟩⟩
    rw [← hqq]
    have P4 := Lib.hid h4
    have K4 : Hid (Kp (fun k => wB.heap.size ≤ k) wB w4) := Hk3.out.trans (hk4.mono fun _ _ h => h.elim)
    have O4 : Hid (Opn (fun k => wB.heap.size ≤ k ∧ k < w3.heap.size) w4 bo (encs l ++ bh) none) := Ho3.out.kp hk4 (fun _ _ h => h)
    have hs4 : w3.heap.size ≤ w4.heap.size := hk4.size
    clear hp h4 hqq hk4
    go_wp2_with fail
    go_loopw [9] (fun i wr => ∃ k : Nat, k ≤ l.length ∧ i = .int .i64 k ∧ Opn (fun k => wB.heap.size ≤ k ∧ k < w3.heap.size) wr bo (encs (l.drop k) ++ bh) none ∧ Pk (fun k => w3.heap.size ≤ k) wr q (encs (l.take k)) 0 ∧
      Kp (fun k => wB.heap.size ≤ k) wB wr ∧ w3.heap.size ≤ wr.heap.size) (fun i _ => l.length - (intOf i).toNat)
    case atStart => exact ⟨0, Nat.zero_le _, rfl, O4.out, P4.out, K4.out, hs4⟩
    case round =>
      obtain ⟨k, hk, rfl, hon, hpn, hkn, hsn⟩ := hrel
      have hkw : Kp (fun k => C ≤ k) w wr := KB.out.trans_new hkn (fun b hb => .inl (Nat.le_trans KB.out.size hb))
      have Hon := Lib.hid hon
      have Hpn := Lib.hid hpn
      have Hkn := Lib.hid hkn
      have Hkw := Lib.hid hkw
      clear hon hpn hkn hkw
      by_cases hlt : k < l.length
      · have hit := H.out.keep (w' := wr) (fun q hq => Hkw.out.block q (Nat.lt_of_lt_of_le hq HB.out) (by rw [HC.out]; have := HB.out; omega))
        obtain ⟨b, o, rfl, hbB, c0, c1, c2, c3⟩ := hit.at_ hlt
        have hok := H.out.1 _ (List.getElem_mem hlt)
        have hs4 := H4.out _ (List.getElem_mem hlt)
        obtain ⟨bs, hbs⟩ := Hall.out _ (List.getElem_mem hlt)
        have htk := encs_take l k hlt
        have hdp := encs_drop l k hlt
        rw [hbs] at htk hdp
        simp only [Option.getD_some] at htk hdp
        have hble := enc1_le _ bs hbs hs4
        have hpl : (encs (l.take k)).length ≤ 60 * 401 := by
          have h1 : (encs (l.take k)).length ≤ (encs l).length := by
            have : encs l = encs (l.take k) ++ encs (l.drop k) := by rw [encs, encs, encs, ← List.flatMap_append, List.take_append_drop]
            rw [this, List.length_append]
            omega
          exact Nat.le_trans h1 Hl2.out
        rw [hdp, List.append_assoc] at Hon
        generalize hre : encs (l.drop (k + 1)) ++ bh = rest at *
        generalize l[k] = x at *
        obtain ⟨d, wd, n, s⟩ := x
        simp only at c0 c1 c2 c3 hs4
        obtain ⟨hd0, hd1, hw0, hw1, hn1, hs1⟩ := hok
        simp only at hd0 hd1 hw0 hw1 hn1 hs1
        have hbx := Box.new wr 27 #[.int .u8 d, .int .i64 wd, .int .u64 n, .string s]
        have Ha : Hid (Opn (fun k => wB.heap.size ≤ k ∧ k < w3.heap.size) (wr.alloc (.cells #[.int .u8 d, .int .i64 wd, .int .u64 n, .string s] 27)) bo (bs ++ rest) none) := Hon.out.kp ((Kp.refl (fun _ => False) wr).alloc _) (fun _ _ h => h)
        have Pa : Hid (Pk (fun k => w3.heap.size ≤ k) (wr.alloc (.cells #[.int .u8 d, .int .i64 wd, .int .u64 n, .string s] 27)) q (encs (l.take k)) 0) := Hpn.out.still ((Kp.refl _ wr).alloc _)
        have Ka : Hid (Kp (fun k => wB.heap.size ≤ k) wB (wr.alloc (.cells #[.int .u8 d, .int .i64 wd, .int .u64 n, .string s] 27))) := Hkn.out.alloc _
        have Sa : Hid (w3.heap.size ≤ (wr.alloc (.cells #[.int .u8 d, .int .i64 wd, .int .u64 n, .string s] 27)).heap.size) := Nat.le_trans hsn (by simp)
        have Hbs := Lib.hid hbs
        have Htk := Lib.hid htk
        have Hre := Lib.hid hre
        have Hn1 := Lib.hid hn1
        have Hpl := Lib.hid hpl
        have hgb : wr.heap.size ≠ bo := by omega
        have Hgb := Lib.hid hgb
        clear hbs htk hdp hre hn1 hpl hs1 hgb hit Hon Hpn
        by_cases e0 : d = 0
        · subst e0
          have hf : fitB wd n = true ∧ bs = beN wd.toNat n := by
            have h1 := Hbs.out
            simp only [enc1, if_true] at h1
            rcases hfb : fitB wd n with _ | _
            · rw [hfb] at h1; simp at h1
            · rw [hfb] at h1; simp at h1; exact ⟨rfl, h1.symm⟩
          obtain ⟨hf1, rfl⟩ := hf
          have Hf := Lib.hid hf1
          clear hf1
          go_wp2_with fail
          refine (otake_put wd n Hf.out Ha.out).mono ?_
          rintro e y1 ⟨rfl, ho1, ky1⟩
          have hb1 := hbx.kp ky1 Hgb.out
          have f1 := hb1.cell 1
          have f2 := hb1.cell 2
          simp at f1 f2
          have P1 := Lib.hid ((Pa.out.kp ky1 (fun k hk e => by omega)).but hb1 (by decide) (by decide))
          have O1 := Lib.hid ho1
          have K1 := Lib.hid (Ka.out.trans (ky1.mono fun k _ e => by rw [e]; exact hbo2))
          have S1 := Lib.hid (Nat.le_trans Sa.out ky1.size)
          clear ho1 ky1
          go_wp2_with fail
          refine (put_any P1.out (fun k hk => ⟨Nat.le_trans S1.out hk, fun e => by subst e; exact Nat.lt_irrefl _ (Nat.lt_of_lt_of_le hb1.lt hk)⟩) wd n Hn1.out (room Hpl.out (by decide))).mono ?_
          rintro e y2 ⟨rfl, hp2, ky2⟩
          rw [Hf.out] at hp2
          simp only [if_true] at hp2
          have hb2' := hb1.kp ky2 (fun h => h.2 rfl)
          have g2 := hb2'.cell 2
          simp at g2
          have P2 := Lib.hid (hp2.mono (F' := fun k => w3.heap.size ≤ k) fun k hk => hk.1)
          have O2 := Lib.hid (O1.out.kp ky2 (fun k hk h => Nat.lt_irrefl _ (Nat.lt_of_lt_of_le hk.2 h.1)))
          have K2 := Lib.hid (K1.out.trans (ky2.mono fun k _ h => Nat.le_trans Hk3.out.size h.1))
          have S2 := Lib.hid (Nat.le_trans S1.out ky2.size)
          clear hp2 ky2 f1 f2
          go_wp2_with fail
          go_roundw
          case rel =>
            refine ⟨k + 1, by omega, by go_num, by rw [Hre.out]; exact O2.out, ?_, K2.out, S2.out⟩
            rw [Htk.out]
            exact P2.out
          case measure => simp [intOf]; omega
        · by_cases e1 : d = 1
          · subst e1
            obtain rfl : bs = hb s := by
              have h1 := Hbs.out
              simp [enc1] at h1
              exact h1.symm
            have hb32 := hb_length s
            have hq : ∀ w', (Op.equalIn 10000 31 (.agg (bcs (hb s)).toArray) (.agg (bcs (hb s)).toArray)).run Try.prog w' = .ok true w' := fun w' => by rw [hash_eq _ _ hb32 hb32]; simp
            have hXs : (Try.prog.info? 31).map (·.size) = some (bcs (hb s)).toArray.size := by rw [List.size_toArray, bcs_length, hb32]; exact info_hash
            have HXs := Lib.hid hXs
            have Hb32 := Lib.hid hb32
            clear hb32 hXs
            go_wp2_with fail
            refine (ohash_put (hb s) Hb32.out Ha.out).mono ?_
            rintro e y1 ⟨rfl, ho1, ky1⟩
            have hb1 := hbx.kp ky1 Hgb.out
            have P1 := Lib.hid ((Pa.out.kp ky1 (fun k hk e => by omega)).but hb1 (by decide) (by decide))
            have O1 := Lib.hid ho1
            have K1 := Lib.hid (Ka.out.trans (ky1.mono fun k _ e => by rw [e]; exact hbo2))
            have S1 := Lib.hid (Nat.le_trans Sa.out ky1.size)
            clear ho1 ky1
            have hst2 := store_hash y1 (hb s) Hb32.out
            have hlen2 : (bcs (hb s)).length = 32 := by rw [bcs_length, Hb32.out]
            go_wp2_with (refine wpList_load_row rfl 31 (.tmp 12) rfl y1.heap.size rfl 31 (bcs (hb s)).toArray (0, 0) _ (heap_alloc_last y1 _) Try.underlying31 rfl ?d1 ?_)
            case d1 => exact HXs.out
            have hbh := Box.new y1 31 (bcs (hb s)).toArray
            have hb1h := hb1.alloc (.cells (bcs (hb s)).toArray 31)
            have P1h := Lib.hid ((P1.out.still ((Kp.refl _ y1).alloc (.cells (bcs (hb s)).toArray 31))).but hbh (by decide) (by decide))
            have O1h : Hid (Opn (fun k => wB.heap.size ≤ k ∧ k < w3.heap.size) (y1.alloc (.cells (bcs (hb s)).toArray 31)) bo rest none) := O1.out.kp ((Kp.refl (fun _ => False) y1).alloc _) (fun _ _ h => h)
            clear hst2
            refine (hash_any P1h.out (fun k hk => ⟨⟨Nat.le_trans S1.out (alloc_le hk), fun e => by subst e; exact Nat.lt_irrefl _ (Nat.lt_of_lt_of_le hb1h.lt hk)⟩, fun e => by subst e; exact Nat.lt_irrefl _ (Nat.lt_of_lt_of_le hbh.lt hk)⟩) (hb s) Hb32.out (room Hpl.out (by decide))).mono ?_
            rintro e y2 ⟨rfl, hp2, ky2⟩
            have hbH2 : Box y2.drew y1.heap.size 31 (bcs (hb s)).toArray := (hbh.kp ky2 (fun h => h.2 rfl)).drew
            have hbX2 : Box y2.drew wr.heap.size 27 #[.int .u8 1, .int .i64 wd, .int .u64 n, .string s] := (hb1h.kp ky2 (fun h => h.1.2 rfl)).drew
            have P2 := Lib.hid (hp2.mono (F' := fun k => w3.heap.size ≤ k) fun k hk => hk.1.1)
            have O2 := Lib.hid (O1h.out.kp ky2 (fun k hk h => Nat.lt_irrefl _ (Nat.lt_of_lt_of_le hk.2 h.1.1)))
            have K2 := Lib.hid ((K1.out.alloc (.cells (bcs (hb s)).toArray 31)).trans (ky2.mono fun k _ h => Nat.le_trans Hk3.out.size h.1.1))
            have S2 := Lib.hid (Nat.le_trans S1.out (alloc_le ky2.size))
            clear hp2 ky2 hbh hb1h hb1 hbx P1h O1h
            go_wp2_with fail
            have hu31 := Try.underlying31
            have hi31 : (Try.prog.info? 31).map (·.size) = some (bcs (hb s)).length := by rw [hlen2]; exact info_hash
            go_region_held3 (fun v => v.rangeAt y1.heap.size 0 (bcs (hb s)) ∧ v.cell? ⟨wr.heap.size, 0, none⟩ = some (.int .u8 1) ∧ v.cell? ⟨wr.heap.size, 1, none⟩ = some (.int .i64 wd) ∧ v.cell? ⟨wr.heap.size, 2, none⟩ = some (.int .u64 n) ∧ v.cell? ⟨wr.heap.size, 3, none⟩ = some (.string s)) (first | exact ⟨hbH2.range, hbX2.cell 0, hbX2.cell 1, hbX2.cell 2, hbX2.cell 3⟩ | exact ⟨hbH3.range, hbX3.cell 0, hbX3.cell 1, hbX3.cell 2, hbX3.cell 3⟩)
              (first | (go_at_call 9; refine (hash_item ⟨1, wd, n, s⟩ y2.drew).mono ?_; rintro e y3 ⟨rfl, ky3⟩; have hbH3 := hbH2.kp ky3 (fun h => h); have hbX3 := hbX2.kp ky3 (fun h => h); have hKy3 := Lib.hid ky3; clear ky3))
            all_goals
              have ky3 := (Kp.refl (fun _ => False) y2).drew.trans (Hid.out (‹Hid (Kp (fun _ => False) y2.drew _)›))
              have O3 := Lib.hid (O2.out.kp ky3 (fun _ _ h => h))
              have P3 := Lib.hid (P2.out.still ky3)
              have K3 := Lib.hid (K2.out.trans (ky3.mono fun _ _ h => h.elim))
              have S3 := Lib.hid (Nat.le_trans S2.out ky3.size)
              clear ky3
              go_wp2_with fail
              go_roundw
              case rel =>
                refine ⟨k + 1, by omega, by go_num, by rw [Hre.out]; exact O3.out, ?_, K3.out, S3.out⟩
                rw [Htk.out]
                exact P3.out
              case measure => simp [intOf]; omega
          · by_cases e2 : d = 2
            · subst e2
              obtain rfl : bs = tb s := by
                have h1 := Hbs.out
                simp [enc1] at h1
                exact h1.symm
              go_wp2_with fail
              refine (otext_put s Ha.out).mono ?_
              rintro e y1 ⟨rfl, ho1, ky1⟩
              have hb1 := hbx.kp ky1 Hgb.out
              have P1 := Lib.hid ((Pa.out.kp ky1 (fun k hk e => by omega)).but hb1 (by decide) (by decide))
              have O1 := Lib.hid ho1
              have K1 := Lib.hid (Ka.out.trans (ky1.mono fun k _ e => by rw [e]; exact hbo2))
              have S1 := Lib.hid (Nat.le_trans Sa.out ky1.size)
              clear ho1 ky1
              go_wp2_with fail
              refine (text_any P1.out (fun k hk => ⟨Nat.le_trans S1.out hk, fun e => by subst e; exact Nat.lt_irrefl _ (Nat.lt_of_lt_of_le hb1.lt hk)⟩) s (room Hpl.out (Nat.le_trans hs4 (by decide)))).mono ?_
              rintro e y2 ⟨rfl, hp2, ky2⟩
              have hb2' := hb1.kp ky2 (fun h => h.2 rfl)
              have g3 := hb2'.cell 3
              simp at g3
              have P2 := Lib.hid (hp2.mono (F' := fun k => w3.heap.size ≤ k) fun k hk => hk.1)
              have O2 := Lib.hid (O1.out.kp ky2 (fun k hk h => Nat.lt_irrefl _ (Nat.lt_of_lt_of_le hk.2 h.1)))
              have K2 := Lib.hid (K1.out.trans (ky2.mono fun k _ h => Nat.le_trans Hk3.out.size h.1))
              have S2 := Lib.hid (Nat.le_trans S1.out ky2.size)
              clear hp2 ky2
              go_wp2_with fail
              go_roundw
              case rel =>
                refine ⟨k + 1, by omega, by go_num, by rw [Hre.out]; exact O2.out, ?_, K2.out, S2.out⟩
                rw [Htk.out]
                exact P2.out
              case measure => simp [intOf]; omega
            · have b0 : (d == 0) = false := by simpa using e0
              have b1 : (d == 1) = false := by simpa using e1
              have b2 : (d == 2) = false := by simpa using e2
              have hf : s.size < 256 ∧ bs = UInt8.ofNat s.size :: tb s := by
                have h1 := Hbs.out
                simp only [enc1, e0, e1, e2, if_false] at h1
                by_cases h256 : s.size < 256
                · rw [if_pos h256] at h1
                  cases h1
                  exact ⟨h256, rfl⟩
                · rw [if_neg h256] at h1
                  cases h1
              obtain ⟨h256, rfl⟩ := hf
              go_wp2_with fail
              refine (oname_put s h256 Ha.out).mono ?_
              rintro e y1 ⟨rfl, ho1, ky1⟩
              have hb1 := hbx.kp ky1 Hgb.out
              have P1 := Lib.hid ((Pa.out.kp ky1 (fun k hk e => by omega)).but hb1 (by decide) (by decide))
              have O1 := Lib.hid ho1
              have K1 := Lib.hid (Ka.out.trans (ky1.mono fun k _ e => by rw [e]; exact hbo2))
              have S1 := Lib.hid (Nat.le_trans Sa.out ky1.size)
              clear ho1 ky1
              go_wp2_with fail
              refine (name_fine P1.out (fun k hk => ⟨Nat.le_trans S1.out hk, fun e => by subst e; exact Nat.lt_irrefl _ (Nat.lt_of_lt_of_le hb1.lt hk)⟩) s (by omega) (by have := Hpl.out; omega)).mono ?_
              rintro e y2 ⟨rfl, hp2, ky2⟩
              have hb2' := hb1.kp ky2 (fun h => h.2 rfl)
              have g3 := hb2'.cell 3
              simp at g3
              have P2 := Lib.hid (hp2.mono (F' := fun k => w3.heap.size ≤ k) fun k hk => hk.1)
              have O2 := Lib.hid (O1.out.kp ky2 (fun k hk h => Nat.lt_irrefl _ (Nat.lt_of_lt_of_le hk.2 h.1)))
              have K2 := Lib.hid (K1.out.trans (ky2.mono fun k _ h => Nat.le_trans Hk3.out.size h.1))
              have S2 := Lib.hid (Nat.le_trans S1.out ky2.size)
              clear hp2 ky2
              go_wp2_with fail
              go_roundw
              case rel =>
                refine ⟨k + 1, by omega, by go_num, by rw [Hre.out]; exact O2.out, ?_, K2.out, S2.out⟩
                rw [Htk.out]
                exact P2.out
              case measure => simp [intOf]; omega
      · obtain rfl : k = l.length := by omega
        rw [List.drop_length] at Hon
        rw [List.take_length] at Hpn
        have O0 : Hid (Opn (fun k => wB.heap.size ≤ k ∧ k < w3.heap.size) wr bo bh none) := Hon.out
        clear Hon
        go_wp2_with fail
        refine (bytes_any Hpn.out (Nat.le_trans Hl2.out (by decide))).mono ?_
        rintro e y1 ⟨A5, c5, rfl, _, _, hr5, _, ky1⟩
        have K1 : Hid (Kp (fun k => wB.heap.size ≤ k) wB y1) := Hkn.out.trans (ky1.mono fun _ _ h => h.elim)
        have hrb1 := Hrb.out.kp_new K1.out (fun _ h => h)
        have hcv1 := hrb1.text 33 9 5 cb Try.underlying33 Try.underlying5 Try.underlying9
        have hcv5 := hr5.text 33 9 5 c5 Try.underlying33 Try.underlying5 Try.underlying9
        have O1 := Lib.hid (O0.out.kp ky1 (fun _ _ h => h))
        clear hrb1 hr5 ky1
        go_wp2_with fail
        refine (left_any O1.out).mono ?_
        rintro e y2 ⟨rfl, rfl⟩
        go_wp2_with fail
        refine (err_fine O1.out).mono ?_
        rintro e y2 ⟨rfl, _, ky2⟩
        have K2 := Lib.hid (K1.out.trans (ky2.mono fun k _ e => by rw [e]; exact hbo2))
        clear ky2 hcv1 hcv5
        go_wp2_with fail
        refine (wakes_true y2).mono ?_
        rintro e y3 ⟨rfl, ky3⟩
        have K3 := Lib.hid (K2.out.trans (ky3.mono fun _ _ h => h.elim))
        clear ky3
        go_wp2_with fail
        go_ret
        refine ⟨rfl, KB.out.trans_new K3.out (fun b hb => .inl (Nat.le_trans KB.out.size hb))⟩
  · have hnil := P1.out.1 he
    rw [hnil]
    have hne : ((putAll l).2 == 0) = false := by simpa using he
    have hne2 : ((putAll l).2 != 0) = true := by simpa using he
    clear he
    generalize (putAll l).2 = er at *
    go_wp2_with fail
    refine (wakes_true wB).mono ?_
    rintro e w2 ⟨rfl, k2⟩
    have K2 := Lib.hid (KB.out.trans (k2.mono fun _ _ h => h.elim))
    clear k2
    go_wp2_with fail
    go_ret
    exact ⟨rfl, K2.out⟩

end Go.Proofs.Ytapohcjohndedaa
