/- What the reader of a page gives, whatever the page. Conditions: at most 512 bytes; a shape that may be. -/
import Derived.Test.YtjapnkpicefadaaNdOp
import Derived.Test.YtjapnkpicefadaaQTk
namespace Go.Proofs.Ytjapnkpicefadaa
open Go.RowKit

theorem intInfo : ∃ i, Try.prog.info? 3 = some i ∧ i.zero = some (.int .i64 0) ∧ i.size = 1 ∧ i.bytes = 8 := by
  have h : (Try.prog.info? 3).map (fun i => (i.zero, i.size, i.bytes)) = some (some (.int .i64 0), 1, 8) := by kernel_rfl
  obtain ⟨i, h1, h2, h3, h4⟩ := info_parts h
  exact ⟨i, h1, h2, h3, h4⟩
theorem strInfo : ∃ i, Try.prog.info? 9 = some i ∧ i.zero = some (.string ⟨#[]⟩) ∧ i.size = 1 ∧ i.bytes = 16 := by
  have h : (Try.prog.info? 9).map (fun i => (i.zero, i.size, i.bytes)) = some (some (.string ⟨#[]⟩), 1, 16) := by kernel_rfl
  obtain ⟨i, h1, h2, h3, h4⟩ := info_parts h
  exact ⟨i, h1, h2, h3, h4⟩
theorem Nw.ge {B : Nat} {w : World} {bn : Nat} {lf : Bool} {vk vv vc : Value} {ks vs : List ByteArray} {cs : List Int} (h : Nw B w bn lf vk vv vc ks vs cs) (q : Nat) (hq : NX bn vk vv vc q) : B ≤ q := by
  rcases hq with rfl | e | e | e
  · exact h.nb
  · exact h.nk q e
  · exact h.nv q e
  · exact h.nc q e
theorem Nw.far {B : Nat} {w : World} {bn : Nat} {lf : Bool} {vk vv vc : Value} {ks vs : List ByteArray} {cs : List Int} (h : Nw B w bn lf vk vv vc ks vs cs) {q : Nat} {t : TypeId} {ds : Array Value} (hb : Box w q t ds) (h1 : 9 ≠ t) (h2 : 3 ≠ t) (hn : q ≠ bn) : ¬ NX bn vk vv vc q := by
  rintro (e | e | e | e)
  · exact hn e
  · exact h1 (type_no (own_ltt h.k e).2 ⟨_, _, hb⟩)
  · exact h1 (type_no (own_ltt h.v e).2 ⟨_, _, hb⟩)
  · exact h2 (type_no (own_ltt h.c e).2 ⟨_, _, hb⟩)
theorem rdKids_len : ∀ (k : Nat) (s : List UInt8 × Bool), (rdKids k s).1.length = k
  | 0, _ => rfl
  | k + 1, s => by simp [rdKids, rdKids_len k s]
theorem rdEnts_lenk (lf : Bool) (kw vw : Nat) : ∀ (k : Nat) (s : List UInt8 × Bool), (rdEnts lf kw vw k s).1.1.length = k
  | 0, _ => rfl
  | k + 1, s => by simp [rdEnts, rdEnts_lenk lf kw vw k s]
theorem rdEnts_lenv (lf : Bool) (kw vw : Nat) : ∀ (k : Nat) (s : List UInt8 × Bool), (rdEnts lf kw vw k s).1.2.length = if lf = true then k else 0
  | 0, _ => by simp [rdEnts]
  | k + 1, s => by
    have := rdEnts_lenv lf kw vw k s
    rcases lf with _ | _
    · simpa [rdEnts] using this
    · simp [rdEnts] at this ⊢
      exact this
theorem rdEnts_f (kw vw k : Nat) (s0 : List UInt8 × Bool) : rdEnts false kw vw (k + 1) s0 = (((rdEnts false kw vw k s0).1.1 ++ [⟨(gv kw (rdEnts false kw vw k s0).2).1.toArray⟩], (rdEnts false kw vw k s0).1.2), (gv kw (rdEnts false kw vw k s0).2).2) := rfl
theorem rdEnts_t (kw vw k : Nat) (s0 : List UInt8 × Bool) : rdEnts true kw vw (k + 1) s0 = (((rdEnts true kw vw k s0).1.1 ++ [⟨(gv kw (rdEnts true kw vw k s0).2).1.toArray⟩], (rdEnts true kw vw k s0).1.2 ++ [⟨(gv vw (gv kw (rdEnts true kw vw k s0).2).2).1.toArray⟩]), (gv vw (gv kw (rdEnts true kw vw k s0).2).2).2) := rfl
theorem nstore_box {P : Program} {ops : Array Oper} {rest : List Oper} {op : Oper} {a : Act} {w : World} {Q : Exit → Act → World → Prop} (hgd : op.guard = none) (ty : TypeId) (x y : Operand) (ho : op.op = .store ty x y)
    (g : Nat) (cs : List Value) (hx : a.eval x = .pointer (some ⟨g, 0, none⟩)) (hy : a.eval y = .agg cs.toArray) {t : TypeId} {old : Array Value} (hb : Box w g t old) (hs : old.size = cs.length)
    (hi : (P.info? ty).map (·.size) = some cs.length) (h1 : ∀ v ∈ cs, v.oneCell' = true)
    (h : ∀ W, Box W g t cs.toArray → Kp (fun k => k = g) w W → wpList P ops Q rest (a.put op.dst undef) W) : wpList P ops Q (op :: rest) a w := by
  have hb' : Box w g t old.toList.toArray := hb
  refine wpList_store_mid hgd ty x y ho g 0 cs.toArray hx hy ?_ (by simpa using hi) (all_oneCell_toArray h1) ?_
  · have := hb'.there
    simp only [List.size_toArray, Array.length_toList] at this ⊢
    rw [← hs]
    exact this
  · exact h _ (hb'.write (by simpa using hs.symm)) (Kp.setCells cs 0 w (Kp.refl _ w) (.inr rfl))
theorem own_one {w : World} {base : Nat} {e : TypeId} {size n : Nat} {v : Value} {xs : List Value} (h : w.ownsRow base e size v n xs) : v.oneCell' = true := by
  rcases h.2 with ⟨rfl, _⟩ | ⟨g, cap, cur, rfl, _⟩ <;> rfl
theorem num2_lt (s : List UInt8 × Bool) : numN (gv 2 s).1 < 65536 := by
  have h1 := numN_lt (gv 2 s).1
  have h2 := gv_len 2 s
  have h3 : 256 ^ (gv 2 s).1.length ≤ 256 ^ 2 := Nat.pow_le_pow_right (by omega) h2
  have h4 : 256 ^ 2 = 65536 := by decide
  omega

set_option maxRecDepth 100000 in
set_option maxHeartbeats 8000000 in
theorem read_any (kw vw : Nat) (l : List UInt8) (b : Nat) (C : Nat → Prop) (w : World) (hCb : C b) (hCn : ∀ k, w.heap.size ≤ k → C k) (ho : Oi 0 (fun _ => False) w b (l, false)) (_hkw : kw ≤ 64) (_hvw : vw ≤ 64) :
    Calls Try.prog 30 #[.agg #[.int .i64 (kw : Int), .int .i64 (vw : Int)], .pointer (some ⟨b, 0, none⟩)] w fun e w' => ∃ p, e = .returned (.agg (ncs (readN kw vw l) p)) ∧ NdR w' (readN kw vw l) p ∧ Kp C w w' := by
  obtain ⟨B, hBe⟩ : ∃ B, B = w.heap.size := ⟨_, rfl⟩
  have hB : B ≤ w.heap.size := by omega
  have HBE : Hid (w.heap.size ≤ B) := Lib.hid (by omega)
  have HCB := Lib.hid hCb
  have HCN := Lib.hid hCn
  clear hBe hCb hCn
  have Hr : Hid (Try.f30.results = #[.cell 4 36]) := Lib.hid (by kernel_rfl)
  obtain ⟨iI, i1, i2, i3, i4⟩ := intInfo
  obtain ⟨iS, s1, s2, s3, s4⟩ := strInfo
  have HBL := Lib.hid ho.nb.2.2
  have HB0 := Lib.hid hB
  obtain ⟨W, hW, b0, b1, k0⟩ : ∃ W, W = (w.alloc (.cells #[.int .i64 (kw : Int), .int .i64 (vw : Int)] 30)).alloc (.cells #[.bool false, .slice none 0 0, .slice none 0 0, .slice none 0 0] 36) ∧ Box W w.heap.size 30 #[.int .i64 (kw : Int), .int .i64 (vw : Int)] ∧ Box W (w.heap.size + 1) 36 #[.bool false, .slice none 0 0, .slice none 0 0, .slice none 0 0] ∧ Kp (fun _ => False) w W := ⟨_, rfl, (Box.new w _ _).alloc _, by simpa using Box.new (w.alloc (.cells #[.int .i64 (kw : Int), .int .i64 (vw : Int)] 30)) 36 #[.bool false, .slice none 0 0, .slice none 0 0, .slice none 0 0], ((Kp.refl _ w).alloc _).alloc _⟩
  have hWs : W.heap.size = w.heap.size + 2 := by rw [hW]; simp
  have HWS := Lib.hid hWs
  have HW := Lib.hid hW
  have HSB0 := Lib.hid b0
  have HZB0 := Lib.hid b1
  have K0 := Lib.hid k0
  have O0 : Hid (Oi 0 (fun _ => False) W b (l, false)) := Lib.hid (ho.step k0 (fun k e => e.elim) (fun k e => e.elim))
  have HBW : Hid (B ≤ W.heap.size) := Lib.hid (by omega)
  obtain ⟨m1, hm1⟩ : ∃ m1, m1 = numN (gv 1 (l, false)).1 := ⟨_, rfl⟩
  obtain ⟨m3, hm3⟩ : ∃ m3, m3 = numN (gv 2 (rdS2 l)).1 := ⟨_, rfl⟩
  obtain ⟨cnt, hcnt⟩ : ∃ cnt, cnt = rdCnt l := ⟨_, rfl⟩
  have hc508 : cnt ≤ 508 := by rw [hcnt]; unfold rdCnt; omega
  have hm3b : m3 < 65536 := by rw [hm3]; exact num2_lt _
  have hwm3 : IntKind.i64.wrap (m3 : Int) = (m3 : Int) := IntWalk.i64_in _ (by omega)
  have HMIN : Hid ((if (508 : Int) < (m3 : Int) then (508 : Int) else (m3 : Int)) = (cnt : Int)) := Lib.hid (by rw [hcnt]; unfold rdCnt; rw [← hm3]; split <;> omega)
  have HM1 := Lib.hid hm1
  have HM3 := Lib.hid hm3
  have HC := Lib.hid hcnt
  have hlfm : ((m1 : Int) == 1) = rdLf l := by
    rw [hm1]
    unfold rdLf
    rw [Bool.eq_iff_iff]
    simp only [beq_iff_eq]
    omega
  have hlfn : (m1 == 1) = rdLf l := by rw [hm1]; rfl
  clear hW b0 b1 k0 ho hB hm1 hm3 hcnt hWs
  rcases hlf : rdLf l with _ | _
  · rw [hlf] at hlfm hlfn
    have HLF := Lib.hid hlf
    clear hlf
    go_enter Try.func30, Try.ntmps30
    go_upto_region 1 with fail
    rw [← HW.out]
    go_wp2_with fail
    have hc := take_i O0.out (fun k e => e.elim) (Nat.zero_le _) 1 rfl
    rw [← HM1.out] at hc
    refine hc.mono ?_
    clear hc
    rintro e w1 ⟨rfl, ho, hk⟩
    have hs1 := hk.size
    have A1 := Lib.hid (HSB0.out.kp hk (fun e => by have := HBL.out; omega))
    have A2 := Lib.hid (HZB0.out.kp hk (fun e => by have := HBL.out; omega))
    have A3 := Lib.hid ho
    have A4 : Hid (Kp C w w1) := Lib.hid ((K0.out.mono fun _ _ e => e.elim).trans (hk.mono fun k _ e => by rw [e]; exact HCB.out))
    have HS1 := Lib.hid hs1
    clear ho hk hs1
    go_upto_region 2 with fail
    skip
    obtain ⟨wb, hwb, hbb, hkb⟩ : ∃ wb, wb = w1.alloc (.cells #[.bool false, .slice none 0 0, .slice none 0 0, .slice none 0 0] 36) ∧ Box wb w1.heap.size 36 #[.bool false, .slice none 0 0, .slice none 0 0, .slice none 0 0] ∧ Kp (fun _ => False) w1 wb := ⟨_, rfl, Box.new w1 _ _, (Kp.refl _ w1).alloc _⟩
    rw [← hwb]
    obtain ⟨bn, hbn⟩ : ∃ bn, w1.heap.size = bn := ⟨_, rfl⟩
    rw [hbn] at hbb ⊢
    have HNB0 : Hid (w.heap.size + 1 < bn) := Lib.hid (by have h1 := HS1.out; have h2 := HWS.out; omega)
    have HBN : Hid (bn < wb.heap.size) := Lib.hid hbb.lt
    have B1 := Lib.hid (A1.out.kp hkb (fun e => e))
    have B2 := Lib.hid (A2.out.kp hkb (fun e => e))
    have BN : Hid (Nw B wb bn false (.slice none 0 0) (.slice none 0 0) (.slice none 0 0) [] [] []) := Lib.hid ⟨hbb, World.ownsRow_nil _ _ _ _, World.ownsRow_nil _ _ _ _, World.ownsRow_nil _ _ _ _, (fun _ e => by cases e), (by have h1 := HS1.out; have h2 := HBW.out; omega), (fun _ e => by cases e), (fun _ e => by cases e), (fun _ e => by cases e)⟩
    have B3 : Hid (Oi 0 (NX bn (.slice none 0 0) (.slice none 0 0) (.slice none 0 0)) wb b (gv 1 (l, false)).2) := Lib.hid (A3.out.step hkb (fun k e => e.elim) (by
      rintro q (e | e | e | e)
      · exact .inr (by omega)
      · cases e
      · cases e
      · cases e))
    have B4 : Hid (Kp C w wb) := Lib.hid (A4.out.trans (hkb.mono fun _ _ e => e.elim))
    clear hwb hbb hkb hbn
    go_wp2_with fail
    have hc := take_i B3.out BN.out.lt (Nat.zero_le _) 1 rfl
    refine hc.mono ?_
    clear hc
    rintro e wc ⟨rfl, ho, hk⟩
    have C1 := Lib.hid (B1.out.kp hk (fun e => by have := HBL.out; omega))
    have C2 := Lib.hid (B2.out.kp hk (fun e => by have := HBL.out; omega))
    have CN := Lib.hid (BN.out.kp hk (fun q e => by rw [e]; exact B3.out.nb.1))
    have C3 : Hid (Oi 0 (NX bn (.slice none 0 0) (.slice none 0 0) (.slice none 0 0)) wc b (rdS2 l)) := Lib.hid ho
    have C4 : Hid (Kp C w wc) := Lib.hid (B4.out.trans (hk.mono fun k _ e => by rw [e]; exact HCB.out))
    clear ho hk
    go_wp2_with fail
    have hc := take_i C3.out CN.out.lt (Nat.zero_le _) 2 rfl
    rw [← HM3.out] at hc
    refine hc.mono ?_
    clear hc
    rintro e wd ⟨rfl, ho, hk⟩
    have D1 := Lib.hid (C1.out.kp hk (fun e => by have := HBL.out; omega))
    have D2 := Lib.hid (C2.out.kp hk (fun e => by have := HBL.out; omega))
    have DN := Lib.hid (CN.out.kp hk (fun q e => by rw [e]; exact C3.out.nb.1))
    have D3 : Hid (Oi 0 (NX bn (.slice none 0 0) (.slice none 0 0) (.slice none 0 0)) wd b (rdS3 l)) := Lib.hid ho
    have D4 : Hid (Kp C w wd) := Lib.hid (C4.out.trans (hk.mono fun k _ e => by rw [e]; exact HCB.out))
    clear ho hk
    have y0 : wd.cell? ⟨bn, 0, none⟩ = some (.bool false) := DN.out.box.cell 0
    go_upto_region 5 with fail
    rw [HMIN.out]
    clear hwm3 hlfm hlfn hm3b
    have hwc : IntKind.i64.wrap ((cnt : Int) + 1) = (cnt : Int) + 1 := IntWalk.i64_in _ (by omega)
    go_upto_region 6 with fail
    clear y0 hwc
    go_loopw [22] (fun s22 wr => ∃ k : Nat, ∃ vc : Value, k ≤ cnt + 1 ∧ s22 = .int .i64 k ∧ Nw B wr bn false (.slice none 0 0) (.slice none 0 0) vc [] [] (rdKids k (rdS3 l)).1 ∧ Oi 0 (NX bn (.slice none 0 0) (.slice none 0 0) vc) wr b (rdKids k (rdS3 l)).2 ∧ Box wr w.heap.size 30 #[.int .i64 (kw : Int), .int .i64 (vw : Int)] ∧ Box wr (w.heap.size + 1) 36 #[.bool false, .slice none 0 0, .slice none 0 0, .slice none 0 0] ∧ Kp C w wr) (fun s22 _ => cnt + 1 - (Go.RowKit.intOf s22).toNat)
    case atStart => exact ⟨0, (.slice none 0 0), Nat.zero_le _, rfl, DN.out, D3.out, D1.out, D2.out, D4.out⟩
    case round =>
      obtain ⟨k, vc, hk, rfl, hn, hoi, hsb, hzb, hkp⟩ := hrel
      have HSB1 := Lib.hid hsb
      have HZB1 := Lib.hid hzb
      have N1 := Lib.hid hn
      have O1 := Lib.hid hoi
      have K1 := Lib.hid hkp
      have HLK := Lib.hid (rdKids_len k (rdS3 l))
      clear hn hoi hsb hzb hkp
      by_cases hlt : k < cnt + 1
      · have hlt' : (k : Int) < (cnt : Int) + 1 := by omega
        obtain ⟨m, hm⟩ : ∃ m, m = numN (gv 2 (rdKids k (rdS3 l)).2).1 := ⟨_, rfl⟩
        have HM := Lib.hid hm
        have hmb : m < 65536 := by rw [hm]; exact num2_lt _
        have hwm : IntKind.i64.wrap (m : Int) = (m : Int) := IntWalk.i64_in _ (by omega)
        have hct := take_i (w := wr.drew) (X := NX bn (.slice none 0 0) (.slice none 0 0) vc) (s := (rdKids k (rdS3 l)).2) (O1.out.step (w := wr) ((Kp.refl (fun _ => False) wr).drew) (fun k e => e.elim) (fun k e => .inl e)) N1.out.lt (Nat.zero_le _) 2 rfl
        rw [← hm] at hct
        have HCT := Lib.hid hct
        clear hm hct
        go_wp2_with fail
        have kd : Kp (fun _ => False) wr wr.drew := (Kp.refl _ wr).drew
        have HSB1 := Lib.hid HSB1.out.drew
        have HZB1 := Lib.hid HZB1.out.drew
        have N1 := Lib.hid (N1.out.kp kd (fun q e => e.elim))
        have O1 := Lib.hid (O1.out.step kd (fun k e => e.elim) (fun k e => .inl e))
        have K1 := Lib.hid K1.out.drew
        clear kd
        refine wp_region_held_drew (S := fun _ => True) (by kernel_rfl) (trivial) (fun hHeld => ?_)
        refine tk 0 (h := ?_)
        refine tk 2 (h := ?_)
        refine wpAnyH_ready (rs := [1, 3]) (by kernel_rfl) (by simp) ?_
        refine rdc 1 (h := fun K hK => ?_) (hs := rdc 3 (h := fun K hK => ?_) (hs := AllReadyH.nil))
        · have y : World.cell? _ ⟨bn, 3, none⟩ = some vc := N1.out.box.cell 3
          go_simp
          clear y
          refine hK.out _ _ (trivial) (fun hHeld13 => ?_)
          clear hK K
          try simp only [Act.put, List.setIfInBounds_toArray, List.set_cons_zero, List.set_cons_succ]
          refine rd 3 (h := fun K hK => ?_)
          go_simp
          refine (HCT.out).mono ?_
          rintro e w2 ⟨rfl, ho, hk⟩
          have HSB2 := Lib.hid (HSB1.out.kp (w' := w2) hk (fun e => by have := HBL.out; omega))
          have HZB2 := Lib.hid (HZB1.out.kp (w' := w2) hk (fun e => by have := HBL.out; omega))
          have N2 := Lib.hid (N1.out.kp hk (fun q e => by rw [e]; exact O1.out.nb.1))
          have O2 := Lib.hid ho
          have K2 : Hid (Kp C w w2) := Lib.hid (K1.out.trans (hk.mono fun k _ e => by rw [e]; exact HCB.out))
          clear ho hk
          go_wp2_with fail
          refine hK.out _ _ (trivial) (fun hHeld1 => ?_)
          clear hK K
          try simp only [Act.put, List.setIfInBounds_toArray, List.set_cons_zero, List.set_cons_succ]
          refine tk 4 (h := ?_)
          refine rd 5 (h := fun K hK => ?_)
          go_simp
          obtain ⟨w3, hwn, hkn, hnb⟩ : ∃ w3, w3 = w2.alloc (.cells #[.int .i64 (m : Int)] 3) ∧ Kp (fun _ => False) w2 w3 ∧ w3.heap[w2.heap.size]? = some (.cells #[.int .i64 (m : Int)] 3 (0, 0)) := ⟨_, rfl, (Kp.refl _ w2).alloc _, heap_alloc_new w2 _⟩
          rw [← hwn]
          obtain ⟨gn, hgn⟩ : ∃ gn, w2.heap.size = gn := ⟨_, rfl⟩
          rw [hgn] at hnb
          try rw [hgn]
          have HNB := Lib.hid hnb
          have HSB3 := Lib.hid (HSB2.out.kp hkn (fun e => e))
          have HZB3 := Lib.hid (HZB2.out.kp hkn (fun e => e))
          have N3 := Lib.hid (N2.out.kp hkn (fun q e => e.elim))
          have O3 := Lib.hid (O2.out.step hkn (fun k e => e.elim) (fun k e => .inl e))
          have K3 : Hid (Kp C w w3) := Lib.hid (K2.out.trans (hkn.mono fun _ _ e => e.elim))
          clear hwn hkn hnb hgn
          refine hK.out _ _ (trivial) (fun hHeld2 => ?_)
          clear hK K
          try simp only [Act.put, List.setIfInBounds_toArray, List.set_cons_zero, List.set_cons_succ]
          refine rd 6 (h := fun K hK => ?_)
          refine wp_append_at (.tmp 25) (.tmp 29) 25 rfl 0 3 iI (.int .i64 0) 1 8 Try.underlying25 i1 i2 i3 i4 rfl (by decide) vc _ (its (rdKids k (rdS3 l)).1) rfl N3.out.c ⟨gn, 0, none⟩ 1 1 [.int .i64 (m : Int)] rfl rfl (World.news_of_block HNB.out) (by simp [Value.oneCell']) (by have := HLK.out; unfold maxLen; omega) (by have := HLK.out; omega) (Nat.zero_le _) ?_
          intro v4 w4 hown hg hat
          obtain ⟨A4, c4, hv4⟩ := own_shape hown
          have HV4 := Lib.hid hv4
          clear hv4
          have hB3 : B ≤ w3.heap.size := Nat.le_trans HB0.out K3.out.size
          have hap := N3.out.appC hB3 m hown hg hat
          have HSB4 := Lib.hid (HSB3.out.kp (grown_kp hg) (HSB3.out.own_ne N3.out.c (by decide)))
          have hbx := N3.out.box.kp (grown_kp hg) N3.out.bc
          have HBX := Lib.hid hbx
          have HAP := Lib.hid hap
          have HBNB := Lib.hid N3.out.bt
          clear hown hg hat hap hbx hB3
          refine hK.out _ _ (trivial) (fun hHeld3 => ?_)
          clear hK K
          try simp only [Act.put, List.setIfInBounds_toArray, List.set_cons_zero, List.set_cons_succ]
          refine tk 7 (h := ?_)
          refine rd 8 (h := fun K hK => ?_)
          have y : World.cell? w4 ⟨bn, 3, none⟩ = some vc := HBX.out.cell 3
          have yf : World.frozen? w4 ⟨bn, 3, none⟩ = false := HBX.out.free 3
          rw [HV4.out]
          go_simp
          rw [← HV4.out]
          clear y yf
          refine hK.out _ _ (trivial) (fun hHeld4 => ?_)
          clear hK K
          try simp only [Act.put, List.setIfInBounds_toArray, List.set_cons_zero, List.set_cons_succ]
          refine wpAnyH_done (by kernel_rfl) ?_ _
          obtain ⟨hn5, hk5, hx5⟩ := HAP.out
          have HSB5 := Lib.hid (HSB4.out.far (p := ⟨bn, 3, none⟩) (by show w.heap.size ≠ bn; have := HNB0.out; omega) v4)
          have HZB5 := Lib.hid (HZB3.out.kp hk5 (N3.out.far HZB3.out (by decide) (by decide) (by have := HNB0.out; omega)))
          have N5 := Lib.hid hn5
          have O5 := Lib.hid (O3.out.step hk5 (fun k e => .inl e) hx5)
          have K5 : Hid (Kp C w _) := Lib.hid (K3.out.trans (hk5.mono fun q _ e => HCN.out q (Nat.le_trans HBE.out (N3.out.ge q e))))
          clear hn5 hk5 hx5
          clear hlt'
          go_wp2_with fail
          go_roundw
          case rel =>
            refine ⟨k + 1, v4, by omega, by go_num, ?_, ?_, HSB5.out, HZB5.out, K5.out⟩
            · have := N5.out
              rw [HM.out] at this
              exact this
            · exact O5.out
          case measure => simp [Go.RowKit.intOf]; omega
        · go_simp
          refine (HCT.out).mono ?_
          rintro e w2 ⟨rfl, ho, hk⟩
          have HSB2 := Lib.hid (HSB1.out.kp (w' := w2) hk (fun e => by have := HBL.out; omega))
          have HZB2 := Lib.hid (HZB1.out.kp (w' := w2) hk (fun e => by have := HBL.out; omega))
          have N2 := Lib.hid (N1.out.kp hk (fun q e => by rw [e]; exact O1.out.nb.1))
          have O2 := Lib.hid ho
          have K2 : Hid (Kp C w w2) := Lib.hid (K1.out.trans (hk.mono fun k _ e => by rw [e]; exact HCB.out))
          clear ho hk
          go_wp2_with fail
          refine hK.out _ _ (trivial) (fun hHeld14 => ?_)
          clear hK K
          try simp only [Act.put, List.setIfInBounds_toArray, List.set_cons_zero, List.set_cons_succ]
          refine tk 4 (h := ?_)
          refine wpAnyH_ready (rs := [1, 5]) (by kernel_rfl) (by simp) ?_
          refine rdc 1 (h := fun K hK => ?_) (hs := rdc 5 (h := fun K hK => ?_) (hs := AllReadyH.nil))
          · have y : World.cell? _ ⟨bn, 3, none⟩ = some vc := N2.out.box.cell 3
            go_simp
            clear y
            refine hK.out _ _ (trivial) (fun hHeld11 => ?_)
            clear hK K
            try simp only [Act.put, List.setIfInBounds_toArray, List.set_cons_zero, List.set_cons_succ]
            refine rd 5 (h := fun K hK => ?_)
            go_simp
            obtain ⟨w3, hwn, hkn, hnb⟩ : ∃ w3, w3 = w2.alloc (.cells #[.int .i64 (m : Int)] 3) ∧ Kp (fun _ => False) w2 w3 ∧ w3.heap[w2.heap.size]? = some (.cells #[.int .i64 (m : Int)] 3 (0, 0)) := ⟨_, rfl, (Kp.refl _ w2).alloc _, heap_alloc_new w2 _⟩
            rw [← hwn]
            obtain ⟨gn, hgn⟩ : ∃ gn, w2.heap.size = gn := ⟨_, rfl⟩
            rw [hgn] at hnb
            try rw [hgn]
            have HNB := Lib.hid hnb
            have HSB3 := Lib.hid (HSB2.out.kp hkn (fun e => e))
            have HZB3 := Lib.hid (HZB2.out.kp hkn (fun e => e))
            have N3 := Lib.hid (N2.out.kp hkn (fun q e => e.elim))
            have O3 := Lib.hid (O2.out.step hkn (fun k e => e.elim) (fun k e => .inl e))
            have K3 : Hid (Kp C w w3) := Lib.hid (K2.out.trans (hkn.mono fun _ _ e => e.elim))
            clear hwn hkn hnb hgn
            refine hK.out _ _ (trivial) (fun hHeld5 => ?_)
            clear hK K
            try simp only [Act.put, List.setIfInBounds_toArray, List.set_cons_zero, List.set_cons_succ]
            refine rd 6 (h := fun K hK => ?_)
            refine wp_append_at (.tmp 25) (.tmp 29) 25 rfl 0 3 iI (.int .i64 0) 1 8 Try.underlying25 i1 i2 i3 i4 rfl (by decide) vc _ (its (rdKids k (rdS3 l)).1) rfl N3.out.c ⟨gn, 0, none⟩ 1 1 [.int .i64 (m : Int)] rfl rfl (World.news_of_block HNB.out) (by simp [Value.oneCell']) (by have := HLK.out; unfold maxLen; omega) (by have := HLK.out; omega) (Nat.zero_le _) ?_
            intro v4 w4 hown hg hat
            obtain ⟨A4, c4, hv4⟩ := own_shape hown
            have HV4 := Lib.hid hv4
            clear hv4
            have hB3 : B ≤ w3.heap.size := Nat.le_trans HB0.out K3.out.size
            have hap := N3.out.appC hB3 m hown hg hat
            have HSB4 := Lib.hid (HSB3.out.kp (grown_kp hg) (HSB3.out.own_ne N3.out.c (by decide)))
            have hbx := N3.out.box.kp (grown_kp hg) N3.out.bc
            have HBX := Lib.hid hbx
            have HAP := Lib.hid hap
            have HBNB := Lib.hid N3.out.bt
            clear hown hg hat hap hbx hB3
            refine hK.out _ _ (trivial) (fun hHeld6 => ?_)
            clear hK K
            try simp only [Act.put, List.setIfInBounds_toArray, List.set_cons_zero, List.set_cons_succ]
            refine tk 7 (h := ?_)
            refine rd 8 (h := fun K hK => ?_)
            have y : World.cell? w4 ⟨bn, 3, none⟩ = some vc := HBX.out.cell 3
            have yf : World.frozen? w4 ⟨bn, 3, none⟩ = false := HBX.out.free 3
            rw [HV4.out]
            go_simp
            rw [← HV4.out]
            clear y yf
            refine hK.out _ _ (trivial) (fun hHeld7 => ?_)
            clear hK K
            try simp only [Act.put, List.setIfInBounds_toArray, List.set_cons_zero, List.set_cons_succ]
            refine wpAnyH_done (by kernel_rfl) ?_ _
            obtain ⟨hn5, hk5, hx5⟩ := HAP.out
            have HSB5 := Lib.hid (HSB4.out.far (p := ⟨bn, 3, none⟩) (by show w.heap.size ≠ bn; have := HNB0.out; omega) v4)
            have HZB5 := Lib.hid (HZB3.out.kp hk5 (N3.out.far HZB3.out (by decide) (by decide) (by have := HNB0.out; omega)))
            have N5 := Lib.hid hn5
            have O5 := Lib.hid (O3.out.step hk5 (fun k e => .inl e) hx5)
            have K5 : Hid (Kp C w _) := Lib.hid (K3.out.trans (hk5.mono fun q _ e => HCN.out q (Nat.le_trans HBE.out (N3.out.ge q e))))
            clear hn5 hk5 hx5
            clear hlt'
            go_wp2_with fail
            go_roundw
            case rel =>
              refine ⟨k + 1, v4, by omega, by go_num, ?_, ?_, HSB5.out, HZB5.out, K5.out⟩
              · have := N5.out
                rw [HM.out] at this
                exact this
              · exact O5.out
            case measure => simp [Go.RowKit.intOf]; omega
          · go_simp
            obtain ⟨w3, hwn, hkn, hnb⟩ : ∃ w3, w3 = w2.alloc (.cells #[.int .i64 (m : Int)] 3) ∧ Kp (fun _ => False) w2 w3 ∧ w3.heap[w2.heap.size]? = some (.cells #[.int .i64 (m : Int)] 3 (0, 0)) := ⟨_, rfl, (Kp.refl _ w2).alloc _, heap_alloc_new w2 _⟩
            rw [← hwn]
            obtain ⟨gn, hgn⟩ : ∃ gn, w2.heap.size = gn := ⟨_, rfl⟩
            rw [hgn] at hnb
            try rw [hgn]
            have HNB := Lib.hid hnb
            have HSB3 := Lib.hid (HSB2.out.kp hkn (fun e => e))
            have HZB3 := Lib.hid (HZB2.out.kp hkn (fun e => e))
            have N3 := Lib.hid (N2.out.kp hkn (fun q e => e.elim))
            have O3 := Lib.hid (O2.out.step hkn (fun k e => e.elim) (fun k e => .inl e))
            have K3 : Hid (Kp C w w3) := Lib.hid (K2.out.trans (hkn.mono fun _ _ e => e.elim))
            clear hwn hkn hnb hgn
            refine hK.out _ _ (trivial) (fun hHeld12 => ?_)
            clear hK K
            try simp only [Act.put, List.setIfInBounds_toArray, List.set_cons_zero, List.set_cons_succ]
            refine rd 1 (h := fun K hK => ?_)
            have y : World.cell? _ ⟨bn, 3, none⟩ = some vc := N3.out.box.cell 3
            go_simp
            clear y
            refine hK.out _ _ (trivial) (fun hHeld8 => ?_)
            clear hK K
            try simp only [Act.put, List.setIfInBounds_toArray, List.set_cons_zero, List.set_cons_succ]
            refine rd 6 (h := fun K hK => ?_)
            refine wp_append_at (.tmp 25) (.tmp 29) 25 rfl 0 3 iI (.int .i64 0) 1 8 Try.underlying25 i1 i2 i3 i4 rfl (by decide) vc _ (its (rdKids k (rdS3 l)).1) rfl N3.out.c ⟨gn, 0, none⟩ 1 1 [.int .i64 (m : Int)] rfl rfl (World.news_of_block HNB.out) (by simp [Value.oneCell']) (by have := HLK.out; unfold maxLen; omega) (by have := HLK.out; omega) (Nat.zero_le _) ?_
            intro v4 w4 hown hg hat
            obtain ⟨A4, c4, hv4⟩ := own_shape hown
            have HV4 := Lib.hid hv4
            clear hv4
            have hB3 : B ≤ w3.heap.size := Nat.le_trans HB0.out K3.out.size
            have hap := N3.out.appC hB3 m hown hg hat
            have HSB4 := Lib.hid (HSB3.out.kp (grown_kp hg) (HSB3.out.own_ne N3.out.c (by decide)))
            have hbx := N3.out.box.kp (grown_kp hg) N3.out.bc
            have HBX := Lib.hid hbx
            have HAP := Lib.hid hap
            have HBNB := Lib.hid N3.out.bt
            clear hown hg hat hap hbx hB3
            refine hK.out _ _ (trivial) (fun hHeld9 => ?_)
            clear hK K
            try simp only [Act.put, List.setIfInBounds_toArray, List.set_cons_zero, List.set_cons_succ]
            refine tk 7 (h := ?_)
            refine rd 8 (h := fun K hK => ?_)
            have y : World.cell? w4 ⟨bn, 3, none⟩ = some vc := HBX.out.cell 3
            have yf : World.frozen? w4 ⟨bn, 3, none⟩ = false := HBX.out.free 3
            rw [HV4.out]
            go_simp
            rw [← HV4.out]
            clear y yf
            refine hK.out _ _ (trivial) (fun hHeld10 => ?_)
            clear hK K
            try simp only [Act.put, List.setIfInBounds_toArray, List.set_cons_zero, List.set_cons_succ]
            refine wpAnyH_done (by kernel_rfl) ?_ _
            obtain ⟨hn5, hk5, hx5⟩ := HAP.out
            have HSB5 := Lib.hid (HSB4.out.far (p := ⟨bn, 3, none⟩) (by show w.heap.size ≠ bn; have := HNB0.out; omega) v4)
            have HZB5 := Lib.hid (HZB3.out.kp hk5 (N3.out.far HZB3.out (by decide) (by decide) (by have := HNB0.out; omega)))
            have N5 := Lib.hid hn5
            have O5 := Lib.hid (O3.out.step hk5 (fun k e => .inl e) hx5)
            have K5 : Hid (Kp C w _) := Lib.hid (K3.out.trans (hk5.mono fun q _ e => HCN.out q (Nat.le_trans HBE.out (N3.out.ge q e))))
            clear hn5 hk5 hx5
            clear hlt'
            go_wp2_with fail
            go_roundw
            case rel =>
              refine ⟨k + 1, v4, by omega, by go_num, ?_, ?_, HSB5.out, HZB5.out, K5.out⟩
              · have := N5.out
                rw [HM.out] at this
                exact this
              · exact O5.out
            case measure => simp [Go.RowKit.intOf]; omega
      · obtain rfl : k = cnt + 1 := by omega
        have hlt' : ¬ ((cnt + 1 : Nat) : Int) < (cnt : Int) + 1 := by omega
        have HKD : Hid (rdKd l = rdKids (cnt + 1) (rdS3 l)) := Lib.hid (by unfold rdKd; rw [HLF.out, if_neg Bool.false_ne_true, HC.out])
        have E1 := HSB1
        have E2 := HZB1
        have E4 := K1
        obtain ⟨we, hwe⟩ : ∃ we, we = wr := ⟨_, rfl⟩
        subst hwe
        have EN : Hid (Nw B we bn false (.slice none 0 0) (.slice none 0 0) vc (rdEnts false kw vw 0 (rdKd l).2).1.1 (rdEnts false kw vw 0 (rdKd l).2).1.2 (rdKd l).1) := Lib.hid (by rw [HKD.out]; exact N1.out)
        have E3 : Hid (Oi 0 (NX bn (.slice none 0 0) (.slice none 0 0) vc) we b (rdEnts false kw vw 0 (rdKd l).2).2) := Lib.hid (by rw [HKD.out]; exact O1.out)
        clear HSB1 HZB1 N1 O1 K1 HLK hk hlt
        have y0 : True := trivial
        go_upto_region 10 with fail
        clear y0
        go_loopw [34] (fun s34 wr => ∃ k : Nat, ∃ vk vv : Value, k ≤ cnt ∧ s34 = .int .i64 k ∧ Nw B wr bn false vk vv vc (rdEnts false kw vw k (rdKd l).2).1.1 (rdEnts false kw vw k (rdKd l).2).1.2 (rdKd l).1 ∧ Oi 0 (NX bn vk vv vc) wr b (rdEnts false kw vw k (rdKd l).2).2 ∧ Box wr w.heap.size 30 #[.int .i64 (kw : Int), .int .i64 (vw : Int)] ∧ Box wr (w.heap.size + 1) 36 #[.bool false, .slice none 0 0, .slice none 0 0, .slice none 0 0] ∧ Kp C w wr) (fun s34 _ => cnt - (Go.RowKit.intOf s34).toNat)
        case atStart => exact ⟨0, (.slice none 0 0), (.slice none 0 0), Nat.zero_le _, rfl, EN.out, E3.out, E1.out, E2.out, E4.out⟩
        case round =>
          obtain ⟨k, vk, vv, hk, rfl, hn, hoi, hsb, hzb, hkp⟩ := hrel
          have HSB1 := Lib.hid hsb
          have HZB1 := Lib.hid hzb
          have N1 := Lib.hid hn
          have O1 := Lib.hid hoi
          have K1 := Lib.hid hkp
          have hlk : (rdEnts false kw vw k (rdKd l).2).1.1.length = k := rdEnts_lenk _ _ _ _ _
          have HLK := Lib.hid hlk
          have hlv := rdEnts_lenv false kw vw k (rdKd l).2
          simp only [Bool.false_eq_true, if_false] at hlv
          have HLV := Lib.hid hlv
          clear hlv
          clear hn hoi hsb hzb hkp hlk
          obtain ⟨s, hs⟩ : ∃ s, s = (rdEnts false kw vw k (rdKd l).2).2 := ⟨_, rfl⟩
          have HS := Lib.hid hs
          rw [← hs] at O1
          clear hs
          by_cases hlt : k < cnt
          · go_upto_region 11 with fail
            have kd : Kp (fun _ => False) wr wr.drew := (Kp.refl _ wr).drew
            have HSB1 := Lib.hid HSB1.out.drew
            have HZB1 := Lib.hid HZB1.out.drew
            have N1 := Lib.hid (N1.out.kp kd (fun q e => e.elim))
            have O1 := Lib.hid (O1.out.step kd (fun k e => e.elim) (fun k e => .inl e))
            have K1 := Lib.hid K1.out.drew
            clear kd
            refine wp_region_held_drew (S := fun v => v.cell? ⟨w.heap.size, 0, none⟩ = some (.int .i64 (kw : Int))) (by kernel_rfl) ((HSB1.out.cell 0)) (fun hHeld => ?_)
            refine tk 0 (h := ?_)
            refine tk 2 (h := ?_)
            refine tk 3 (h := ?_)
            refine tk 4 (h := ?_)
            refine wpAnyH_ready (rs := [1, 5]) (by kernel_rfl) (by simp) ?_
            refine rdc 1 (h := fun K hK => ?_) (hs := rdc 5 (h := fun K hK => ?_) (hs := AllReadyH.nil))
            · have y : World.cell? _ ⟨bn, 1, none⟩ = some vk := N1.out.box.cell 1
              go_simp
              clear y
              refine hK.out _ _ ((HSB1.out.cell 0)) (fun hHeld27 => ?_)
              clear hK K
              try simp only [Act.put, List.setIfInBounds_toArray, List.set_cons_zero, List.set_cons_succ]
              refine rd 5 (h := fun K hK => ?_)
              go_simp
              refine (text_i O1.out N1.out.lt (Nat.zero_le _) kw).mono ?_
              rintro e w2 ⟨rfl, ho, hk⟩
              have HSB2 := Lib.hid (HSB1.out.kp (w' := w2) hk (fun e => by have := HBL.out; omega))
              have HZB2 := Lib.hid (HZB1.out.kp (w' := w2) hk (fun e => by have := HBL.out; omega))
              have N2 := Lib.hid (N1.out.kp hk (fun q e => by rw [e]; exact O1.out.nb.1))
              have O2 := Lib.hid ho
              have K2 : Hid (Kp C w w2) := Lib.hid (K1.out.trans (hk.mono fun k _ e => by rw [e]; exact HCB.out))
              clear ho hk
              go_wp2_with fail
              refine hK.out _ _ ((HSB2.out.cell 0)) (fun hHeld15 => ?_)
              clear hK K
              try simp only [Act.put, List.setIfInBounds_toArray, List.set_cons_zero, List.set_cons_succ]
              refine rd 6 (h := fun K hK => ?_)
              go_simp
              obtain ⟨w3, hwn, hkn, hnb⟩ : ∃ w3, w3 = w2.alloc (.cells #[.string ⟨(gv kw s).1.toArray⟩] 9) ∧ Kp (fun _ => False) w2 w3 ∧ w3.heap[w2.heap.size]? = some (.cells #[.string ⟨(gv kw s).1.toArray⟩] 9 (0, 0)) := ⟨_, rfl, (Kp.refl _ w2).alloc _, heap_alloc_new w2 _⟩
              rw [← hwn]
              obtain ⟨gn, hgn⟩ : ∃ gn, w2.heap.size = gn := ⟨_, rfl⟩
              rw [hgn] at hnb
              try rw [hgn]
              have HNB := Lib.hid hnb
              have HSB3 := Lib.hid (HSB2.out.kp hkn (fun e => e))
              have HZB3 := Lib.hid (HZB2.out.kp hkn (fun e => e))
              have N3 := Lib.hid (N2.out.kp hkn (fun q e => e.elim))
              have O3 := Lib.hid (O2.out.step hkn (fun k e => e.elim) (fun k e => .inl e))
              have K3 : Hid (Kp C w w3) := Lib.hid (K2.out.trans (hkn.mono fun _ _ e => e.elim))
              clear hwn hkn hnb hgn
              refine hK.out _ _ ((HSB3.out.cell 0)) (fun hHeld16 => ?_)
              clear hK K
              try simp only [Act.put, List.setIfInBounds_toArray, List.set_cons_zero, List.set_cons_succ]
              refine rd 7 (h := fun K hK => ?_)
              refine wp_append_at (.tmp 37) (.tmp 42) 24 rfl 0 9 iS (.string ⟨#[]⟩) 1 16 Try.underlying24 s1 s2 s3 s4 rfl (by decide) vk _ (sts (rdEnts false kw vw k (rdKd l).2).1.1) rfl N3.out.k ⟨gn, 0, none⟩ 1 1 [.string ⟨(gv kw s).1.toArray⟩] rfl rfl (World.news_of_block HNB.out) (by simp [Value.oneCell']) (by have := HLK.out; unfold maxLen; omega) (by have := HLK.out; omega) (Nat.zero_le _) ?_
              intro v4 w4 hown hg hat
              obtain ⟨A4, c4, hv4⟩ := own_shape hown
              have HV4 := Lib.hid hv4
              clear hv4
              have hB3 : B ≤ w3.heap.size := Nat.le_trans HB0.out K3.out.size
              have hap := N3.out.appK hB3 ⟨(gv kw s).1.toArray⟩ hown hg hat
              have HSB4 := Lib.hid (HSB3.out.kp (grown_kp hg) (HSB3.out.own_ne N3.out.k (by decide)))
              have hbx := N3.out.box.kp (grown_kp hg) N3.out.bk
              have HBX := Lib.hid hbx
              have HAP := Lib.hid hap
              have HBNB := Lib.hid N3.out.bt
              clear hown hg hat hap hbx hB3
              refine hK.out _ _ ((HSB4.out.cell 0)) (fun hHeld17 => ?_)
              clear hK K
              try simp only [Act.put, List.setIfInBounds_toArray, List.set_cons_zero, List.set_cons_succ]
              refine tk 8 (h := ?_)
              refine rd 9 (h := fun K hK => ?_)
              have y : World.cell? w4 ⟨bn, 1, none⟩ = some vk := HBX.out.cell 1
              have yf : World.frozen? w4 ⟨bn, 1, none⟩ = false := HBX.out.free 1
              rw [HV4.out]
              go_simp
              rw [← HV4.out]
              clear y yf
              refine hK.out _ _ (((HSB4.out.far (p := ⟨bn, 1, none⟩) (by show w.heap.size ≠ bn; have := HNB0.out; omega) v4).cell 0)) (fun hHeld18 => ?_)
              clear hK K
              try simp only [Act.put, List.setIfInBounds_toArray, List.set_cons_zero, List.set_cons_succ]
              refine wpAnyH_done (by kernel_rfl) ?_ _
              obtain ⟨hn5, hk5, hx5⟩ := HAP.out
              have HSB5 := Lib.hid (HSB4.out.far (p := ⟨bn, 1, none⟩) (by show w.heap.size ≠ bn; have := HNB0.out; omega) v4)
              have HZB5 := Lib.hid (HZB3.out.kp hk5 (N3.out.far HZB3.out (by decide) (by decide) (by have := HNB0.out; omega)))
              have N5 := Lib.hid hn5
              have O5 := Lib.hid (O3.out.step hk5 (fun k e => .inl e) hx5)
              have K5 : Hid (Kp C w _) := Lib.hid (K3.out.trans (hk5.mono fun q _ e => HCN.out q (Nat.le_trans HBE.out (N3.out.ge q e))))
              clear hn5 hk5 hx5
              have y0 : World.cell? _ ⟨bn, 0, none⟩ = some (.bool false) := N5.out.box.cell 0
              go_wp2_with fail
              go_roundw
              case rel =>
                refine ⟨k + 1, v4, vv, by omega, by go_num, ?_, ?_, HSB5.out, HZB5.out, K5.out⟩
                · rw [rdEnts_f, ← HS.out]
                  exact N5.out
                · rw [rdEnts_f, ← HS.out]
                  exact O5.out
              case measure => simp [Go.RowKit.intOf]; omega
            · go_simp
              refine (text_i O1.out N1.out.lt (Nat.zero_le _) kw).mono ?_
              rintro e w2 ⟨rfl, ho, hk⟩
              have HSB2 := Lib.hid (HSB1.out.kp (w' := w2) hk (fun e => by have := HBL.out; omega))
              have HZB2 := Lib.hid (HZB1.out.kp (w' := w2) hk (fun e => by have := HBL.out; omega))
              have N2 := Lib.hid (N1.out.kp hk (fun q e => by rw [e]; exact O1.out.nb.1))
              have O2 := Lib.hid ho
              have K2 : Hid (Kp C w w2) := Lib.hid (K1.out.trans (hk.mono fun k _ e => by rw [e]; exact HCB.out))
              clear ho hk
              go_wp2_with fail
              refine hK.out _ _ ((HSB2.out.cell 0)) (fun hHeld28 => ?_)
              clear hK K
              try simp only [Act.put, List.setIfInBounds_toArray, List.set_cons_zero, List.set_cons_succ]
              refine wpAnyH_ready (rs := [1, 6]) (by kernel_rfl) (by simp) ?_
              refine rdc 1 (h := fun K hK => ?_) (hs := rdc 6 (h := fun K hK => ?_) (hs := AllReadyH.nil))
              · have y : World.cell? _ ⟨bn, 1, none⟩ = some vk := N2.out.box.cell 1
                go_simp
                clear y
                refine hK.out _ _ ((HSB2.out.cell 0)) (fun hHeld25 => ?_)
                clear hK K
                try simp only [Act.put, List.setIfInBounds_toArray, List.set_cons_zero, List.set_cons_succ]
                refine rd 6 (h := fun K hK => ?_)
                go_simp
                obtain ⟨w3, hwn, hkn, hnb⟩ : ∃ w3, w3 = w2.alloc (.cells #[.string ⟨(gv kw s).1.toArray⟩] 9) ∧ Kp (fun _ => False) w2 w3 ∧ w3.heap[w2.heap.size]? = some (.cells #[.string ⟨(gv kw s).1.toArray⟩] 9 (0, 0)) := ⟨_, rfl, (Kp.refl _ w2).alloc _, heap_alloc_new w2 _⟩
                rw [← hwn]
                obtain ⟨gn, hgn⟩ : ∃ gn, w2.heap.size = gn := ⟨_, rfl⟩
                rw [hgn] at hnb
                try rw [hgn]
                have HNB := Lib.hid hnb
                have HSB3 := Lib.hid (HSB2.out.kp hkn (fun e => e))
                have HZB3 := Lib.hid (HZB2.out.kp hkn (fun e => e))
                have N3 := Lib.hid (N2.out.kp hkn (fun q e => e.elim))
                have O3 := Lib.hid (O2.out.step hkn (fun k e => e.elim) (fun k e => .inl e))
                have K3 : Hid (Kp C w w3) := Lib.hid (K2.out.trans (hkn.mono fun _ _ e => e.elim))
                clear hwn hkn hnb hgn
                refine hK.out _ _ ((HSB3.out.cell 0)) (fun hHeld19 => ?_)
                clear hK K
                try simp only [Act.put, List.setIfInBounds_toArray, List.set_cons_zero, List.set_cons_succ]
                refine rd 7 (h := fun K hK => ?_)
                refine wp_append_at (.tmp 37) (.tmp 42) 24 rfl 0 9 iS (.string ⟨#[]⟩) 1 16 Try.underlying24 s1 s2 s3 s4 rfl (by decide) vk _ (sts (rdEnts false kw vw k (rdKd l).2).1.1) rfl N3.out.k ⟨gn, 0, none⟩ 1 1 [.string ⟨(gv kw s).1.toArray⟩] rfl rfl (World.news_of_block HNB.out) (by simp [Value.oneCell']) (by have := HLK.out; unfold maxLen; omega) (by have := HLK.out; omega) (Nat.zero_le _) ?_
                intro v4 w4 hown hg hat
                obtain ⟨A4, c4, hv4⟩ := own_shape hown
                have HV4 := Lib.hid hv4
                clear hv4
                have hB3 : B ≤ w3.heap.size := Nat.le_trans HB0.out K3.out.size
                have hap := N3.out.appK hB3 ⟨(gv kw s).1.toArray⟩ hown hg hat
                have HSB4 := Lib.hid (HSB3.out.kp (grown_kp hg) (HSB3.out.own_ne N3.out.k (by decide)))
                have hbx := N3.out.box.kp (grown_kp hg) N3.out.bk
                have HBX := Lib.hid hbx
                have HAP := Lib.hid hap
                have HBNB := Lib.hid N3.out.bt
                clear hown hg hat hap hbx hB3
                refine hK.out _ _ ((HSB4.out.cell 0)) (fun hHeld20 => ?_)
                clear hK K
                try simp only [Act.put, List.setIfInBounds_toArray, List.set_cons_zero, List.set_cons_succ]
                refine tk 8 (h := ?_)
                refine rd 9 (h := fun K hK => ?_)
                have y : World.cell? w4 ⟨bn, 1, none⟩ = some vk := HBX.out.cell 1
                have yf : World.frozen? w4 ⟨bn, 1, none⟩ = false := HBX.out.free 1
                rw [HV4.out]
                go_simp
                rw [← HV4.out]
                clear y yf
                refine hK.out _ _ (((HSB4.out.far (p := ⟨bn, 1, none⟩) (by show w.heap.size ≠ bn; have := HNB0.out; omega) v4).cell 0)) (fun hHeld21 => ?_)
                clear hK K
                try simp only [Act.put, List.setIfInBounds_toArray, List.set_cons_zero, List.set_cons_succ]
                refine wpAnyH_done (by kernel_rfl) ?_ _
                obtain ⟨hn5, hk5, hx5⟩ := HAP.out
                have HSB5 := Lib.hid (HSB4.out.far (p := ⟨bn, 1, none⟩) (by show w.heap.size ≠ bn; have := HNB0.out; omega) v4)
                have HZB5 := Lib.hid (HZB3.out.kp hk5 (N3.out.far HZB3.out (by decide) (by decide) (by have := HNB0.out; omega)))
                have N5 := Lib.hid hn5
                have O5 := Lib.hid (O3.out.step hk5 (fun k e => .inl e) hx5)
                have K5 : Hid (Kp C w _) := Lib.hid (K3.out.trans (hk5.mono fun q _ e => HCN.out q (Nat.le_trans HBE.out (N3.out.ge q e))))
                clear hn5 hk5 hx5
                have y0 : World.cell? _ ⟨bn, 0, none⟩ = some (.bool false) := N5.out.box.cell 0
                go_wp2_with fail
                go_roundw
                case rel =>
                  refine ⟨k + 1, v4, vv, by omega, by go_num, ?_, ?_, HSB5.out, HZB5.out, K5.out⟩
                  · rw [rdEnts_f, ← HS.out]
                    exact N5.out
                  · rw [rdEnts_f, ← HS.out]
                    exact O5.out
                case measure => simp [Go.RowKit.intOf]; omega
              · go_simp
                obtain ⟨w3, hwn, hkn, hnb⟩ : ∃ w3, w3 = w2.alloc (.cells #[.string ⟨(gv kw s).1.toArray⟩] 9) ∧ Kp (fun _ => False) w2 w3 ∧ w3.heap[w2.heap.size]? = some (.cells #[.string ⟨(gv kw s).1.toArray⟩] 9 (0, 0)) := ⟨_, rfl, (Kp.refl _ w2).alloc _, heap_alloc_new w2 _⟩
                rw [← hwn]
                obtain ⟨gn, hgn⟩ : ∃ gn, w2.heap.size = gn := ⟨_, rfl⟩
                rw [hgn] at hnb
                try rw [hgn]
                have HNB := Lib.hid hnb
                have HSB3 := Lib.hid (HSB2.out.kp hkn (fun e => e))
                have HZB3 := Lib.hid (HZB2.out.kp hkn (fun e => e))
                have N3 := Lib.hid (N2.out.kp hkn (fun q e => e.elim))
                have O3 := Lib.hid (O2.out.step hkn (fun k e => e.elim) (fun k e => .inl e))
                have K3 : Hid (Kp C w w3) := Lib.hid (K2.out.trans (hkn.mono fun _ _ e => e.elim))
                clear hwn hkn hnb hgn
                refine hK.out _ _ ((HSB3.out.cell 0)) (fun hHeld26 => ?_)
                clear hK K
                try simp only [Act.put, List.setIfInBounds_toArray, List.set_cons_zero, List.set_cons_succ]
                refine rd 1 (h := fun K hK => ?_)
                have y : World.cell? _ ⟨bn, 1, none⟩ = some vk := N3.out.box.cell 1
                go_simp
                clear y
                refine hK.out _ _ ((HSB3.out.cell 0)) (fun hHeld22 => ?_)
                clear hK K
                try simp only [Act.put, List.setIfInBounds_toArray, List.set_cons_zero, List.set_cons_succ]
                refine rd 7 (h := fun K hK => ?_)
                refine wp_append_at (.tmp 37) (.tmp 42) 24 rfl 0 9 iS (.string ⟨#[]⟩) 1 16 Try.underlying24 s1 s2 s3 s4 rfl (by decide) vk _ (sts (rdEnts false kw vw k (rdKd l).2).1.1) rfl N3.out.k ⟨gn, 0, none⟩ 1 1 [.string ⟨(gv kw s).1.toArray⟩] rfl rfl (World.news_of_block HNB.out) (by simp [Value.oneCell']) (by have := HLK.out; unfold maxLen; omega) (by have := HLK.out; omega) (Nat.zero_le _) ?_
                intro v4 w4 hown hg hat
                obtain ⟨A4, c4, hv4⟩ := own_shape hown
                have HV4 := Lib.hid hv4
                clear hv4
                have hB3 : B ≤ w3.heap.size := Nat.le_trans HB0.out K3.out.size
                have hap := N3.out.appK hB3 ⟨(gv kw s).1.toArray⟩ hown hg hat
                have HSB4 := Lib.hid (HSB3.out.kp (grown_kp hg) (HSB3.out.own_ne N3.out.k (by decide)))
                have hbx := N3.out.box.kp (grown_kp hg) N3.out.bk
                have HBX := Lib.hid hbx
                have HAP := Lib.hid hap
                have HBNB := Lib.hid N3.out.bt
                clear hown hg hat hap hbx hB3
                refine hK.out _ _ ((HSB4.out.cell 0)) (fun hHeld23 => ?_)
                clear hK K
                try simp only [Act.put, List.setIfInBounds_toArray, List.set_cons_zero, List.set_cons_succ]
                refine tk 8 (h := ?_)
                refine rd 9 (h := fun K hK => ?_)
                have y : World.cell? w4 ⟨bn, 1, none⟩ = some vk := HBX.out.cell 1
                have yf : World.frozen? w4 ⟨bn, 1, none⟩ = false := HBX.out.free 1
                rw [HV4.out]
                go_simp
                rw [← HV4.out]
                clear y yf
                refine hK.out _ _ (((HSB4.out.far (p := ⟨bn, 1, none⟩) (by show w.heap.size ≠ bn; have := HNB0.out; omega) v4).cell 0)) (fun hHeld24 => ?_)
                clear hK K
                try simp only [Act.put, List.setIfInBounds_toArray, List.set_cons_zero, List.set_cons_succ]
                refine wpAnyH_done (by kernel_rfl) ?_ _
                obtain ⟨hn5, hk5, hx5⟩ := HAP.out
                have HSB5 := Lib.hid (HSB4.out.far (p := ⟨bn, 1, none⟩) (by show w.heap.size ≠ bn; have := HNB0.out; omega) v4)
                have HZB5 := Lib.hid (HZB3.out.kp hk5 (N3.out.far HZB3.out (by decide) (by decide) (by have := HNB0.out; omega)))
                have N5 := Lib.hid hn5
                have O5 := Lib.hid (O3.out.step hk5 (fun k e => .inl e) hx5)
                have K5 : Hid (Kp C w _) := Lib.hid (K3.out.trans (hk5.mono fun q _ e => HCN.out q (Nat.le_trans HBE.out (N3.out.ge q e))))
                clear hn5 hk5 hx5
                have y0 : World.cell? _ ⟨bn, 0, none⟩ = some (.bool false) := N5.out.box.cell 0
                go_wp2_with fail
                go_roundw
                case rel =>
                  refine ⟨k + 1, v4, vv, by omega, by go_num, ?_, ?_, HSB5.out, HZB5.out, K5.out⟩
                  · rw [rdEnts_f, ← HS.out]
                    exact N5.out
                  · rw [rdEnts_f, ← HS.out]
                    exact O5.out
                case measure => simp [Go.RowKit.intOf]; omega
          · obtain rfl : k = cnt := by omega
            have hrn : readN kw vw l = ⟨false, (rdEnts false kw vw k (rdKd l).2).1.1, (rdEnts false kw vw k (rdKd l).2).1.2, (rdKd l).1⟩ := by
              unfold readN rdEn
              rw [HLF.out, ← HC.out]
              try simp [rdKd, HLF.out, ← HC.out]
            have HRN := Lib.hid hrn
            clear hrn
            go_wp2_with (first | (refine wpList_load_mid rfl 36 (.tmp 5) rfl bn 0 rfl [.bool false, vk, vv, vc] _ N1.out.box.range Try.underlying36 rfl (by kernel_rfl) ?_) | (refine nstore_box rfl 36 (.tmp 4) (.tmp 57) rfl (w.heap.size + 1) [.bool false, vk, vv, vc] rfl rfl HZB1.out rfl (by kernel_rfl) ?_ ?_) | fail)
            · intro u hu
              simp only [List.mem_cons, List.not_mem_nil, or_false] at hu
              rcases hu with rfl | rfl | rfl | rfl
              · rfl
              · exact own_one N1.out.k
              · exact own_one N1.out.v
              · exact own_one N1.out.c
            intro w9 hb9 hk9
            have N9 := N1.out.kp hk9 (fun q e hx => by subst e; exact N1.out.far HZB1.out (by decide) (by decide) (by have := HNB0.out; omega) hx)
            obtain ⟨p, hp, hr⟩ := N9.node
            have HB9 := Lib.hid hb9
            have HP := Lib.hid hp
            have HR9 := Lib.hid hr
            have HK9 := Lib.hid (K1.out.trans (hk9.mono fun q _ e => by rw [e]; exact HCN.out _ (by omega)))
            clear hb9 hk9 N9 hp hr
            go_wp2_with fail
            refine bodyPost_ret (v := .agg #[.bool false, vk, vv, vc]) ?_ rfl ?_
            · exact results_cell_row Hr.out _ _ (w.heap.size + 1) _ _ (0, 0) _ rfl HB9.out Try.underlying36 rfl (by kernel_rfl)
            · rw [HRN.out]
              exact ⟨p, by rw [HP.out], HR9.out, HK9.out⟩
  · rw [hlf] at hlfm hlfn
    have HLF := Lib.hid hlf
    clear hlf
    go_enter Try.func30, Try.ntmps30
    go_upto_region 1 with fail
    rw [← HW.out]
    go_wp2_with fail
    have hc := take_i O0.out (fun k e => e.elim) (Nat.zero_le _) 1 rfl
    rw [← HM1.out] at hc
    refine hc.mono ?_
    clear hc
    rintro e w1 ⟨rfl, ho, hk⟩
    have hs1 := hk.size
    have A1 := Lib.hid (HSB0.out.kp hk (fun e => by have := HBL.out; omega))
    have A2 := Lib.hid (HZB0.out.kp hk (fun e => by have := HBL.out; omega))
    have A3 := Lib.hid ho
    have A4 : Hid (Kp C w w1) := Lib.hid ((K0.out.mono fun _ _ e => e.elim).trans (hk.mono fun k _ e => by rw [e]; exact HCB.out))
    have HS1 := Lib.hid hs1
    clear ho hk hs1
    go_upto_region 2 with fail
    skip
    obtain ⟨wb, hwb, hbb, hkb⟩ : ∃ wb, wb = w1.alloc (.cells #[.bool true, .slice none 0 0, .slice none 0 0, .slice none 0 0] 36) ∧ Box wb w1.heap.size 36 #[.bool true, .slice none 0 0, .slice none 0 0, .slice none 0 0] ∧ Kp (fun _ => False) w1 wb := ⟨_, rfl, Box.new w1 _ _, (Kp.refl _ w1).alloc _⟩
    rw [← hwb]
    obtain ⟨bn, hbn⟩ : ∃ bn, w1.heap.size = bn := ⟨_, rfl⟩
    rw [hbn] at hbb ⊢
    have HNB0 : Hid (w.heap.size + 1 < bn) := Lib.hid (by have h1 := HS1.out; have h2 := HWS.out; omega)
    have HBN : Hid (bn < wb.heap.size) := Lib.hid hbb.lt
    have B1 := Lib.hid (A1.out.kp hkb (fun e => e))
    have B2 := Lib.hid (A2.out.kp hkb (fun e => e))
    have BN : Hid (Nw B wb bn true (.slice none 0 0) (.slice none 0 0) (.slice none 0 0) [] [] []) := Lib.hid ⟨hbb, World.ownsRow_nil _ _ _ _, World.ownsRow_nil _ _ _ _, World.ownsRow_nil _ _ _ _, (fun _ e => by cases e), (by have h1 := HS1.out; have h2 := HBW.out; omega), (fun _ e => by cases e), (fun _ e => by cases e), (fun _ e => by cases e)⟩
    have B3 : Hid (Oi 0 (NX bn (.slice none 0 0) (.slice none 0 0) (.slice none 0 0)) wb b (gv 1 (l, false)).2) := Lib.hid (A3.out.step hkb (fun k e => e.elim) (by
      rintro q (e | e | e | e)
      · exact .inr (by omega)
      · cases e
      · cases e
      · cases e))
    have B4 : Hid (Kp C w wb) := Lib.hid (A4.out.trans (hkb.mono fun _ _ e => e.elim))
    clear hwb hbb hkb hbn
    go_wp2_with fail
    have hc := take_i B3.out BN.out.lt (Nat.zero_le _) 1 rfl
    refine hc.mono ?_
    clear hc
    rintro e wc ⟨rfl, ho, hk⟩
    have C1 := Lib.hid (B1.out.kp hk (fun e => by have := HBL.out; omega))
    have C2 := Lib.hid (B2.out.kp hk (fun e => by have := HBL.out; omega))
    have CN := Lib.hid (BN.out.kp hk (fun q e => by rw [e]; exact B3.out.nb.1))
    have C3 : Hid (Oi 0 (NX bn (.slice none 0 0) (.slice none 0 0) (.slice none 0 0)) wc b (rdS2 l)) := Lib.hid ho
    have C4 : Hid (Kp C w wc) := Lib.hid (B4.out.trans (hk.mono fun k _ e => by rw [e]; exact HCB.out))
    clear ho hk
    go_wp2_with fail
    have hc := take_i C3.out CN.out.lt (Nat.zero_le _) 2 rfl
    rw [← HM3.out] at hc
    refine hc.mono ?_
    clear hc
    rintro e wd ⟨rfl, ho, hk⟩
    have D1 := Lib.hid (C1.out.kp hk (fun e => by have := HBL.out; omega))
    have D2 := Lib.hid (C2.out.kp hk (fun e => by have := HBL.out; omega))
    have DN := Lib.hid (CN.out.kp hk (fun q e => by rw [e]; exact C3.out.nb.1))
    have D3 : Hid (Oi 0 (NX bn (.slice none 0 0) (.slice none 0 0) (.slice none 0 0)) wd b (rdS3 l)) := Lib.hid ho
    have D4 : Hid (Kp C w wd) := Lib.hid (C4.out.trans (hk.mono fun k _ e => by rw [e]; exact HCB.out))
    clear ho hk
    have y0 : wd.cell? ⟨bn, 0, none⟩ = some (.bool true) := DN.out.box.cell 0
    go_upto_region 9 with fail
    rw [HMIN.out]
    clear hwm3 hlfm hlfn hm3b
    have E1 := D1
    have E2 := D2
    have EN : Hid (Nw B wd bn true (.slice none 0 0) (.slice none 0 0) (.slice none 0 0) (rdEnts true kw vw 0 (rdKd l).2).1.1 (rdEnts true kw vw 0 (rdKd l).2).1.2 []) := DN
    have E3 : Hid (Oi 0 (NX bn (.slice none 0 0) (.slice none 0 0) (.slice none 0 0)) wd b (rdEnts true kw vw 0 (rdKd l).2).2) := Lib.hid (by have := D3.out; simpa [rdEnts, rdKd, HLF.out] using this)
    have E4 := D4
    go_upto_region 10 with fail
    clear y0
    go_loopw [34] (fun s34 wr => ∃ k : Nat, ∃ vk vv : Value, k ≤ cnt ∧ s34 = .int .i64 k ∧ Nw B wr bn true vk vv (.slice none 0 0) (rdEnts true kw vw k (rdKd l).2).1.1 (rdEnts true kw vw k (rdKd l).2).1.2 [] ∧ Oi 0 (NX bn vk vv (.slice none 0 0)) wr b (rdEnts true kw vw k (rdKd l).2).2 ∧ Box wr w.heap.size 30 #[.int .i64 (kw : Int), .int .i64 (vw : Int)] ∧ Box wr (w.heap.size + 1) 36 #[.bool false, .slice none 0 0, .slice none 0 0, .slice none 0 0] ∧ Kp C w wr) (fun s34 _ => cnt - (Go.RowKit.intOf s34).toNat)
    case atStart => exact ⟨0, (.slice none 0 0), (.slice none 0 0), Nat.zero_le _, rfl, EN.out, E3.out, E1.out, E2.out, E4.out⟩
    case round =>
      obtain ⟨k, vk, vv, hk, rfl, hn, hoi, hsb, hzb, hkp⟩ := hrel
      have HSB1 := Lib.hid hsb
      have HZB1 := Lib.hid hzb
      have N1 := Lib.hid hn
      have O1 := Lib.hid hoi
      have K1 := Lib.hid hkp
      have hlk : (rdEnts true kw vw k (rdKd l).2).1.1.length = k := rdEnts_lenk _ _ _ _ _
      have HLK := Lib.hid hlk
      have hlv := rdEnts_lenv true kw vw k (rdKd l).2
      simp only [if_true] at hlv
      have HLV := Lib.hid hlv
      clear hlv
      clear hn hoi hsb hzb hkp hlk
      obtain ⟨s, hs⟩ : ∃ s, s = (rdEnts true kw vw k (rdKd l).2).2 := ⟨_, rfl⟩
      have HS := Lib.hid hs
      rw [← hs] at O1
      clear hs
      by_cases hlt : k < cnt
      · go_upto_region 11 with fail
        have kd : Kp (fun _ => False) wr wr.drew := (Kp.refl _ wr).drew
        have HSB1 := Lib.hid HSB1.out.drew
        have HZB1 := Lib.hid HZB1.out.drew
        have N1 := Lib.hid (N1.out.kp kd (fun q e => e.elim))
        have O1 := Lib.hid (O1.out.step kd (fun k e => e.elim) (fun k e => .inl e))
        have K1 := Lib.hid K1.out.drew
        clear kd
        refine wp_region_held_drew (S := fun v => v.cell? ⟨w.heap.size, 0, none⟩ = some (.int .i64 (kw : Int))) (by kernel_rfl) ((HSB1.out.cell 0)) (fun hHeld => ?_)
        refine tk 0 (h := ?_)
        refine tk 2 (h := ?_)
        refine tk 3 (h := ?_)
        refine tk 4 (h := ?_)
        refine wpAnyH_ready (rs := [1, 5]) (by kernel_rfl) (by simp) ?_
        refine rdc 1 (h := fun K hK => ?_) (hs := rdc 5 (h := fun K hK => ?_) (hs := AllReadyH.nil))
        · have y : World.cell? _ ⟨bn, 1, none⟩ = some vk := N1.out.box.cell 1
          go_simp
          clear y
          refine hK.out _ _ ((HSB1.out.cell 0)) (fun hHeld41 => ?_)
          clear hK K
          try simp only [Act.put, List.setIfInBounds_toArray, List.set_cons_zero, List.set_cons_succ]
          refine rd 5 (h := fun K hK => ?_)
          go_simp
          refine (text_i O1.out N1.out.lt (Nat.zero_le _) kw).mono ?_
          rintro e w2 ⟨rfl, ho, hk⟩
          have HSB2 := Lib.hid (HSB1.out.kp (w' := w2) hk (fun e => by have := HBL.out; omega))
          have HZB2 := Lib.hid (HZB1.out.kp (w' := w2) hk (fun e => by have := HBL.out; omega))
          have N2 := Lib.hid (N1.out.kp hk (fun q e => by rw [e]; exact O1.out.nb.1))
          have O2 := Lib.hid ho
          have K2 : Hid (Kp C w w2) := Lib.hid (K1.out.trans (hk.mono fun k _ e => by rw [e]; exact HCB.out))
          clear ho hk
          go_wp2_with fail
          refine hK.out _ _ ((HSB2.out.cell 0)) (fun hHeld29 => ?_)
          clear hK K
          try simp only [Act.put, List.setIfInBounds_toArray, List.set_cons_zero, List.set_cons_succ]
          refine rd 6 (h := fun K hK => ?_)
          go_simp
          obtain ⟨w3, hwn, hkn, hnb⟩ : ∃ w3, w3 = w2.alloc (.cells #[.string ⟨(gv kw s).1.toArray⟩] 9) ∧ Kp (fun _ => False) w2 w3 ∧ w3.heap[w2.heap.size]? = some (.cells #[.string ⟨(gv kw s).1.toArray⟩] 9 (0, 0)) := ⟨_, rfl, (Kp.refl _ w2).alloc _, heap_alloc_new w2 _⟩
          rw [← hwn]
          obtain ⟨gn, hgn⟩ : ∃ gn, w2.heap.size = gn := ⟨_, rfl⟩
          rw [hgn] at hnb
          try rw [hgn]
          have HNB := Lib.hid hnb
          have HSB3 := Lib.hid (HSB2.out.kp hkn (fun e => e))
          have HZB3 := Lib.hid (HZB2.out.kp hkn (fun e => e))
          have N3 := Lib.hid (N2.out.kp hkn (fun q e => e.elim))
          have O3 := Lib.hid (O2.out.step hkn (fun k e => e.elim) (fun k e => .inl e))
          have K3 : Hid (Kp C w w3) := Lib.hid (K2.out.trans (hkn.mono fun _ _ e => e.elim))
          clear hwn hkn hnb hgn
          refine hK.out _ _ ((HSB3.out.cell 0)) (fun hHeld30 => ?_)
          clear hK K
          try simp only [Act.put, List.setIfInBounds_toArray, List.set_cons_zero, List.set_cons_succ]
          refine rd 7 (h := fun K hK => ?_)
          refine wp_append_at (.tmp 37) (.tmp 42) 24 rfl 0 9 iS (.string ⟨#[]⟩) 1 16 Try.underlying24 s1 s2 s3 s4 rfl (by decide) vk _ (sts (rdEnts true kw vw k (rdKd l).2).1.1) rfl N3.out.k ⟨gn, 0, none⟩ 1 1 [.string ⟨(gv kw s).1.toArray⟩] rfl rfl (World.news_of_block HNB.out) (by simp [Value.oneCell']) (by have := HLK.out; unfold maxLen; omega) (by have := HLK.out; omega) (Nat.zero_le _) ?_
          intro v4 w4 hown hg hat
          obtain ⟨A4, c4, hv4⟩ := own_shape hown
          have HV4 := Lib.hid hv4
          clear hv4
          have hB3 : B ≤ w3.heap.size := Nat.le_trans HB0.out K3.out.size
          have hap := N3.out.appK hB3 ⟨(gv kw s).1.toArray⟩ hown hg hat
          have HSB4 := Lib.hid (HSB3.out.kp (grown_kp hg) (HSB3.out.own_ne N3.out.k (by decide)))
          have hbx := N3.out.box.kp (grown_kp hg) N3.out.bk
          have HBX := Lib.hid hbx
          have HAP := Lib.hid hap
          have HBNB := Lib.hid N3.out.bt
          clear hown hg hat hap hbx hB3
          refine hK.out _ _ ((HSB4.out.cell 0)) (fun hHeld31 => ?_)
          clear hK K
          try simp only [Act.put, List.setIfInBounds_toArray, List.set_cons_zero, List.set_cons_succ]
          refine tk 8 (h := ?_)
          refine rd 9 (h := fun K hK => ?_)
          have y : World.cell? w4 ⟨bn, 1, none⟩ = some vk := HBX.out.cell 1
          have yf : World.frozen? w4 ⟨bn, 1, none⟩ = false := HBX.out.free 1
          rw [HV4.out]
          go_simp
          rw [← HV4.out]
          clear y yf
          refine hK.out _ _ (((HSB4.out.far (p := ⟨bn, 1, none⟩) (by show w.heap.size ≠ bn; have := HNB0.out; omega) v4).cell 0)) (fun hHeld32 => ?_)
          clear hK K
          try simp only [Act.put, List.setIfInBounds_toArray, List.set_cons_zero, List.set_cons_succ]
          refine wpAnyH_done (by kernel_rfl) ?_ _
          obtain ⟨hn5, hk5, hx5⟩ := HAP.out
          have HSB5 := Lib.hid (HSB4.out.far (p := ⟨bn, 1, none⟩) (by show w.heap.size ≠ bn; have := HNB0.out; omega) v4)
          have HZB5 := Lib.hid (HZB3.out.kp hk5 (N3.out.far HZB3.out (by decide) (by decide) (by have := HNB0.out; omega)))
          have N5 := Lib.hid hn5
          have O5 := Lib.hid (O3.out.step hk5 (fun k e => .inl e) hx5)
          have K5 : Hid (Kp C w _) := Lib.hid (K3.out.trans (hk5.mono fun q _ e => HCN.out q (Nat.le_trans HBE.out (N3.out.ge q e))))
          clear hn5 hk5 hx5
          have y0 : World.cell? _ ⟨bn, 0, none⟩ = some (.bool true) := N5.out.box.cell 0
          go_upto_region 13 with fail
          clear y0
          obtain ⟨w6, hw6⟩ : ∃ w6, w6 = w4.setCell ⟨bn, 1, none⟩ v4 := ⟨_, rfl⟩
          rw [← hw6] at HSB5 HZB5 N5 O5 K5 ⊢
          clear HSB1 HZB1 N1 O1 K1 HSB2 HZB2 N2 O2 K2 HSB3 HZB3 N3 O3 K3 HSB4 HBX HAP HNB hw6 hHeld
          obtain ⟨vk5, hvk5⟩ : ∃ vk5, vk5 = v4 := ⟨_, rfl⟩
          rw [← hvk5] at N5 O5 ⊢
          have HSB1 := HSB5
          have HZB1 := HZB5
          have N1 := N5
          have O1 := O5
          have K1 := K5
          clear HSB5 HZB5 N5 O5 K5 hvk5
          have kd : Kp (fun _ => False) w6 w6.drew := (Kp.refl _ w6).drew
          have HSB1 := Lib.hid HSB1.out.drew
          have HZB1 := Lib.hid HZB1.out.drew
          have N1 := Lib.hid (N1.out.kp kd (fun q e => e.elim))
          have O1 := Lib.hid (O1.out.step kd (fun k e => e.elim) (fun k e => .inl e))
          have K1 := Lib.hid K1.out.drew
          clear kd
          refine wp_region_held_drew (S := fun v => v.cell? ⟨w.heap.size, 1, none⟩ = some (.int .i64 (vw : Int))) (by kernel_rfl) ((HSB1.out.cell 1)) (fun hHeld => ?_)
          refine tk 0 (h := ?_)
          refine tk 2 (h := ?_)
          refine tk 3 (h := ?_)
          refine tk 4 (h := ?_)
          refine wpAnyH_ready (rs := [1, 5]) (by kernel_rfl) (by simp) ?_
          refine rdc 1 (h := fun K hK => ?_) (hs := rdc 5 (h := fun K hK => ?_) (hs := AllReadyH.nil))
          · have y : World.cell? _ ⟨bn, 2, none⟩ = some vv := N1.out.box.cell 2
            go_simp
            clear y
            refine hK.out _ _ ((HSB1.out.cell 1)) (fun hHeld55 => ?_)
            clear hK K
            try simp only [Act.put, List.setIfInBounds_toArray, List.set_cons_zero, List.set_cons_succ]
            refine rd 5 (h := fun K hK => ?_)
            go_simp
            refine (text_i O1.out N1.out.lt (Nat.zero_le _) vw).mono ?_
            rintro e w2 ⟨rfl, ho, hk⟩
            have HSB2 := Lib.hid (HSB1.out.kp (w' := w2) hk (fun e => by have := HBL.out; omega))
            have HZB2 := Lib.hid (HZB1.out.kp (w' := w2) hk (fun e => by have := HBL.out; omega))
            have N2 := Lib.hid (N1.out.kp hk (fun q e => by rw [e]; exact O1.out.nb.1))
            have O2 := Lib.hid ho
            have K2 : Hid (Kp C w w2) := Lib.hid (K1.out.trans (hk.mono fun k _ e => by rw [e]; exact HCB.out))
            clear ho hk
            go_wp2_with fail
            refine hK.out _ _ ((HSB2.out.cell 1)) (fun hHeld43 => ?_)
            clear hK K
            try simp only [Act.put, List.setIfInBounds_toArray, List.set_cons_zero, List.set_cons_succ]
            refine rd 6 (h := fun K hK => ?_)
            go_simp
            obtain ⟨w3, hwn, hkn, hnb⟩ : ∃ w3, w3 = w2.alloc (.cells #[.string ⟨(gv vw (gv kw s).2).1.toArray⟩] 9) ∧ Kp (fun _ => False) w2 w3 ∧ w3.heap[w2.heap.size]? = some (.cells #[.string ⟨(gv vw (gv kw s).2).1.toArray⟩] 9 (0, 0)) := ⟨_, rfl, (Kp.refl _ w2).alloc _, heap_alloc_new w2 _⟩
            rw [← hwn]
            obtain ⟨gn, hgn⟩ : ∃ gn, w2.heap.size = gn := ⟨_, rfl⟩
            rw [hgn] at hnb
            try rw [hgn]
            have HNB := Lib.hid hnb
            have HSB3 := Lib.hid (HSB2.out.kp hkn (fun e => e))
            have HZB3 := Lib.hid (HZB2.out.kp hkn (fun e => e))
            have N3 := Lib.hid (N2.out.kp hkn (fun q e => e.elim))
            have O3 := Lib.hid (O2.out.step hkn (fun k e => e.elim) (fun k e => .inl e))
            have K3 : Hid (Kp C w w3) := Lib.hid (K2.out.trans (hkn.mono fun _ _ e => e.elim))
            clear hwn hkn hnb hgn
            refine hK.out _ _ ((HSB3.out.cell 1)) (fun hHeld44 => ?_)
            clear hK K
            try simp only [Act.put, List.setIfInBounds_toArray, List.set_cons_zero, List.set_cons_succ]
            refine rd 7 (h := fun K hK => ?_)
            refine wp_append_at (.tmp 48) (.tmp 53) 24 rfl 0 9 iS (.string ⟨#[]⟩) 1 16 Try.underlying24 s1 s2 s3 s4 rfl (by decide) vv _ (sts (rdEnts true kw vw k (rdKd l).2).1.2) rfl N3.out.v ⟨gn, 0, none⟩ 1 1 [.string ⟨(gv vw (gv kw s).2).1.toArray⟩] rfl rfl (World.news_of_block HNB.out) (by simp [Value.oneCell']) (by have := HLV.out; unfold maxLen; omega) (by have := HLV.out; omega) (Nat.zero_le _) ?_
            intro v4 w4 hown hg hat
            obtain ⟨A4, c4, hv4⟩ := own_shape hown
            have HV4 := Lib.hid hv4
            clear hv4
            have hB3 : B ≤ w3.heap.size := Nat.le_trans HB0.out K3.out.size
            have hap := N3.out.appV hB3 ⟨(gv vw (gv kw s).2).1.toArray⟩ hown hg hat
            have HSB4 := Lib.hid (HSB3.out.kp (grown_kp hg) (HSB3.out.own_ne N3.out.v (by decide)))
            have hbx := N3.out.box.kp (grown_kp hg) N3.out.bv
            have HBX := Lib.hid hbx
            have HAP := Lib.hid hap
            have HBNB := Lib.hid N3.out.bt
            clear hown hg hat hap hbx hB3
            refine hK.out _ _ ((HSB4.out.cell 1)) (fun hHeld45 => ?_)
            clear hK K
            try simp only [Act.put, List.setIfInBounds_toArray, List.set_cons_zero, List.set_cons_succ]
            refine tk 8 (h := ?_)
            refine rd 9 (h := fun K hK => ?_)
            have y : World.cell? w4 ⟨bn, 2, none⟩ = some vv := HBX.out.cell 2
            have yf : World.frozen? w4 ⟨bn, 2, none⟩ = false := HBX.out.free 2
            rw [HV4.out]
            go_simp
            rw [← HV4.out]
            clear y yf
            refine hK.out _ _ (((HSB4.out.far (p := ⟨bn, 2, none⟩) (by show w.heap.size ≠ bn; have := HNB0.out; omega) v4).cell 1)) (fun hHeld46 => ?_)
            clear hK K
            try simp only [Act.put, List.setIfInBounds_toArray, List.set_cons_zero, List.set_cons_succ]
            refine wpAnyH_done (by kernel_rfl) ?_ _
            obtain ⟨hn5, hk5, hx5⟩ := HAP.out
            have HSB5 := Lib.hid (HSB4.out.far (p := ⟨bn, 2, none⟩) (by show w.heap.size ≠ bn; have := HNB0.out; omega) v4)
            have HZB5 := Lib.hid (HZB3.out.kp hk5 (N3.out.far HZB3.out (by decide) (by decide) (by have := HNB0.out; omega)))
            have N5 := Lib.hid hn5
            have O5 := Lib.hid (O3.out.step hk5 (fun k e => .inl e) hx5)
            have K5 : Hid (Kp C w _) := Lib.hid (K3.out.trans (hk5.mono fun q _ e => HCN.out q (Nat.le_trans HBE.out (N3.out.ge q e))))
            clear hn5 hk5 hx5
            go_wp2_with fail
            go_roundw
            case rel =>
              refine ⟨k + 1, vk5, v4, by omega, by go_num, ?_, ?_, HSB5.out, HZB5.out, K5.out⟩
              · rw [rdEnts_t, ← HS.out]
                exact N5.out
              · rw [rdEnts_t, ← HS.out]
                exact O5.out
            case measure => simp [Go.RowKit.intOf]; omega
          · go_simp
            refine (text_i O1.out N1.out.lt (Nat.zero_le _) vw).mono ?_
            rintro e w2 ⟨rfl, ho, hk⟩
            have HSB2 := Lib.hid (HSB1.out.kp (w' := w2) hk (fun e => by have := HBL.out; omega))
            have HZB2 := Lib.hid (HZB1.out.kp (w' := w2) hk (fun e => by have := HBL.out; omega))
            have N2 := Lib.hid (N1.out.kp hk (fun q e => by rw [e]; exact O1.out.nb.1))
            have O2 := Lib.hid ho
            have K2 : Hid (Kp C w w2) := Lib.hid (K1.out.trans (hk.mono fun k _ e => by rw [e]; exact HCB.out))
            clear ho hk
            go_wp2_with fail
            refine hK.out _ _ ((HSB2.out.cell 1)) (fun hHeld56 => ?_)
            clear hK K
            try simp only [Act.put, List.setIfInBounds_toArray, List.set_cons_zero, List.set_cons_succ]
            refine wpAnyH_ready (rs := [1, 6]) (by kernel_rfl) (by simp) ?_
            refine rdc 1 (h := fun K hK => ?_) (hs := rdc 6 (h := fun K hK => ?_) (hs := AllReadyH.nil))
            · have y : World.cell? _ ⟨bn, 2, none⟩ = some vv := N2.out.box.cell 2
              go_simp
              clear y
              refine hK.out _ _ ((HSB2.out.cell 1)) (fun hHeld53 => ?_)
              clear hK K
              try simp only [Act.put, List.setIfInBounds_toArray, List.set_cons_zero, List.set_cons_succ]
              refine rd 6 (h := fun K hK => ?_)
              go_simp
              obtain ⟨w3, hwn, hkn, hnb⟩ : ∃ w3, w3 = w2.alloc (.cells #[.string ⟨(gv vw (gv kw s).2).1.toArray⟩] 9) ∧ Kp (fun _ => False) w2 w3 ∧ w3.heap[w2.heap.size]? = some (.cells #[.string ⟨(gv vw (gv kw s).2).1.toArray⟩] 9 (0, 0)) := ⟨_, rfl, (Kp.refl _ w2).alloc _, heap_alloc_new w2 _⟩
              rw [← hwn]
              obtain ⟨gn, hgn⟩ : ∃ gn, w2.heap.size = gn := ⟨_, rfl⟩
              rw [hgn] at hnb
              try rw [hgn]
              have HNB := Lib.hid hnb
              have HSB3 := Lib.hid (HSB2.out.kp hkn (fun e => e))
              have HZB3 := Lib.hid (HZB2.out.kp hkn (fun e => e))
              have N3 := Lib.hid (N2.out.kp hkn (fun q e => e.elim))
              have O3 := Lib.hid (O2.out.step hkn (fun k e => e.elim) (fun k e => .inl e))
              have K3 : Hid (Kp C w w3) := Lib.hid (K2.out.trans (hkn.mono fun _ _ e => e.elim))
              clear hwn hkn hnb hgn
              refine hK.out _ _ ((HSB3.out.cell 1)) (fun hHeld47 => ?_)
              clear hK K
              try simp only [Act.put, List.setIfInBounds_toArray, List.set_cons_zero, List.set_cons_succ]
              refine rd 7 (h := fun K hK => ?_)
              refine wp_append_at (.tmp 48) (.tmp 53) 24 rfl 0 9 iS (.string ⟨#[]⟩) 1 16 Try.underlying24 s1 s2 s3 s4 rfl (by decide) vv _ (sts (rdEnts true kw vw k (rdKd l).2).1.2) rfl N3.out.v ⟨gn, 0, none⟩ 1 1 [.string ⟨(gv vw (gv kw s).2).1.toArray⟩] rfl rfl (World.news_of_block HNB.out) (by simp [Value.oneCell']) (by have := HLV.out; unfold maxLen; omega) (by have := HLV.out; omega) (Nat.zero_le _) ?_
              intro v4 w4 hown hg hat
              obtain ⟨A4, c4, hv4⟩ := own_shape hown
              have HV4 := Lib.hid hv4
              clear hv4
              have hB3 : B ≤ w3.heap.size := Nat.le_trans HB0.out K3.out.size
              have hap := N3.out.appV hB3 ⟨(gv vw (gv kw s).2).1.toArray⟩ hown hg hat
              have HSB4 := Lib.hid (HSB3.out.kp (grown_kp hg) (HSB3.out.own_ne N3.out.v (by decide)))
              have hbx := N3.out.box.kp (grown_kp hg) N3.out.bv
              have HBX := Lib.hid hbx
              have HAP := Lib.hid hap
              have HBNB := Lib.hid N3.out.bt
              clear hown hg hat hap hbx hB3
              refine hK.out _ _ ((HSB4.out.cell 1)) (fun hHeld48 => ?_)
              clear hK K
              try simp only [Act.put, List.setIfInBounds_toArray, List.set_cons_zero, List.set_cons_succ]
              refine tk 8 (h := ?_)
              refine rd 9 (h := fun K hK => ?_)
              have y : World.cell? w4 ⟨bn, 2, none⟩ = some vv := HBX.out.cell 2
              have yf : World.frozen? w4 ⟨bn, 2, none⟩ = false := HBX.out.free 2
              rw [HV4.out]
              go_simp
              rw [← HV4.out]
              clear y yf
              refine hK.out _ _ (((HSB4.out.far (p := ⟨bn, 2, none⟩) (by show w.heap.size ≠ bn; have := HNB0.out; omega) v4).cell 1)) (fun hHeld49 => ?_)
              clear hK K
              try simp only [Act.put, List.setIfInBounds_toArray, List.set_cons_zero, List.set_cons_succ]
              refine wpAnyH_done (by kernel_rfl) ?_ _
              obtain ⟨hn5, hk5, hx5⟩ := HAP.out
              have HSB5 := Lib.hid (HSB4.out.far (p := ⟨bn, 2, none⟩) (by show w.heap.size ≠ bn; have := HNB0.out; omega) v4)
              have HZB5 := Lib.hid (HZB3.out.kp hk5 (N3.out.far HZB3.out (by decide) (by decide) (by have := HNB0.out; omega)))
              have N5 := Lib.hid hn5
              have O5 := Lib.hid (O3.out.step hk5 (fun k e => .inl e) hx5)
              have K5 : Hid (Kp C w _) := Lib.hid (K3.out.trans (hk5.mono fun q _ e => HCN.out q (Nat.le_trans HBE.out (N3.out.ge q e))))
              clear hn5 hk5 hx5
              go_wp2_with fail
              go_roundw
              case rel =>
                refine ⟨k + 1, vk5, v4, by omega, by go_num, ?_, ?_, HSB5.out, HZB5.out, K5.out⟩
                · rw [rdEnts_t, ← HS.out]
                  exact N5.out
                · rw [rdEnts_t, ← HS.out]
                  exact O5.out
              case measure => simp [Go.RowKit.intOf]; omega
            · go_simp
              obtain ⟨w3, hwn, hkn, hnb⟩ : ∃ w3, w3 = w2.alloc (.cells #[.string ⟨(gv vw (gv kw s).2).1.toArray⟩] 9) ∧ Kp (fun _ => False) w2 w3 ∧ w3.heap[w2.heap.size]? = some (.cells #[.string ⟨(gv vw (gv kw s).2).1.toArray⟩] 9 (0, 0)) := ⟨_, rfl, (Kp.refl _ w2).alloc _, heap_alloc_new w2 _⟩
              rw [← hwn]
              obtain ⟨gn, hgn⟩ : ∃ gn, w2.heap.size = gn := ⟨_, rfl⟩
              rw [hgn] at hnb
              try rw [hgn]
              have HNB := Lib.hid hnb
              have HSB3 := Lib.hid (HSB2.out.kp hkn (fun e => e))
              have HZB3 := Lib.hid (HZB2.out.kp hkn (fun e => e))
              have N3 := Lib.hid (N2.out.kp hkn (fun q e => e.elim))
              have O3 := Lib.hid (O2.out.step hkn (fun k e => e.elim) (fun k e => .inl e))
              have K3 : Hid (Kp C w w3) := Lib.hid (K2.out.trans (hkn.mono fun _ _ e => e.elim))
              clear hwn hkn hnb hgn
              refine hK.out _ _ ((HSB3.out.cell 1)) (fun hHeld54 => ?_)
              clear hK K
              try simp only [Act.put, List.setIfInBounds_toArray, List.set_cons_zero, List.set_cons_succ]
              refine rd 1 (h := fun K hK => ?_)
              have y : World.cell? _ ⟨bn, 2, none⟩ = some vv := N3.out.box.cell 2
              go_simp
              clear y
              refine hK.out _ _ ((HSB3.out.cell 1)) (fun hHeld50 => ?_)
              clear hK K
              try simp only [Act.put, List.setIfInBounds_toArray, List.set_cons_zero, List.set_cons_succ]
              refine rd 7 (h := fun K hK => ?_)
              refine wp_append_at (.tmp 48) (.tmp 53) 24 rfl 0 9 iS (.string ⟨#[]⟩) 1 16 Try.underlying24 s1 s2 s3 s4 rfl (by decide) vv _ (sts (rdEnts true kw vw k (rdKd l).2).1.2) rfl N3.out.v ⟨gn, 0, none⟩ 1 1 [.string ⟨(gv vw (gv kw s).2).1.toArray⟩] rfl rfl (World.news_of_block HNB.out) (by simp [Value.oneCell']) (by have := HLV.out; unfold maxLen; omega) (by have := HLV.out; omega) (Nat.zero_le _) ?_
              intro v4 w4 hown hg hat
              obtain ⟨A4, c4, hv4⟩ := own_shape hown
              have HV4 := Lib.hid hv4
              clear hv4
              have hB3 : B ≤ w3.heap.size := Nat.le_trans HB0.out K3.out.size
              have hap := N3.out.appV hB3 ⟨(gv vw (gv kw s).2).1.toArray⟩ hown hg hat
              have HSB4 := Lib.hid (HSB3.out.kp (grown_kp hg) (HSB3.out.own_ne N3.out.v (by decide)))
              have hbx := N3.out.box.kp (grown_kp hg) N3.out.bv
              have HBX := Lib.hid hbx
              have HAP := Lib.hid hap
              have HBNB := Lib.hid N3.out.bt
              clear hown hg hat hap hbx hB3
              refine hK.out _ _ ((HSB4.out.cell 1)) (fun hHeld51 => ?_)
              clear hK K
              try simp only [Act.put, List.setIfInBounds_toArray, List.set_cons_zero, List.set_cons_succ]
              refine tk 8 (h := ?_)
              refine rd 9 (h := fun K hK => ?_)
              have y : World.cell? w4 ⟨bn, 2, none⟩ = some vv := HBX.out.cell 2
              have yf : World.frozen? w4 ⟨bn, 2, none⟩ = false := HBX.out.free 2
              rw [HV4.out]
              go_simp
              rw [← HV4.out]
              clear y yf
              refine hK.out _ _ (((HSB4.out.far (p := ⟨bn, 2, none⟩) (by show w.heap.size ≠ bn; have := HNB0.out; omega) v4).cell 1)) (fun hHeld52 => ?_)
              clear hK K
              try simp only [Act.put, List.setIfInBounds_toArray, List.set_cons_zero, List.set_cons_succ]
              refine wpAnyH_done (by kernel_rfl) ?_ _
              obtain ⟨hn5, hk5, hx5⟩ := HAP.out
              have HSB5 := Lib.hid (HSB4.out.far (p := ⟨bn, 2, none⟩) (by show w.heap.size ≠ bn; have := HNB0.out; omega) v4)
              have HZB5 := Lib.hid (HZB3.out.kp hk5 (N3.out.far HZB3.out (by decide) (by decide) (by have := HNB0.out; omega)))
              have N5 := Lib.hid hn5
              have O5 := Lib.hid (O3.out.step hk5 (fun k e => .inl e) hx5)
              have K5 : Hid (Kp C w _) := Lib.hid (K3.out.trans (hk5.mono fun q _ e => HCN.out q (Nat.le_trans HBE.out (N3.out.ge q e))))
              clear hn5 hk5 hx5
              go_wp2_with fail
              go_roundw
              case rel =>
                refine ⟨k + 1, vk5, v4, by omega, by go_num, ?_, ?_, HSB5.out, HZB5.out, K5.out⟩
                · rw [rdEnts_t, ← HS.out]
                  exact N5.out
                · rw [rdEnts_t, ← HS.out]
                  exact O5.out
              case measure => simp [Go.RowKit.intOf]; omega
        · go_simp
          refine (text_i O1.out N1.out.lt (Nat.zero_le _) kw).mono ?_
          rintro e w2 ⟨rfl, ho, hk⟩
          have HSB2 := Lib.hid (HSB1.out.kp (w' := w2) hk (fun e => by have := HBL.out; omega))
          have HZB2 := Lib.hid (HZB1.out.kp (w' := w2) hk (fun e => by have := HBL.out; omega))
          have N2 := Lib.hid (N1.out.kp hk (fun q e => by rw [e]; exact O1.out.nb.1))
          have O2 := Lib.hid ho
          have K2 : Hid (Kp C w w2) := Lib.hid (K1.out.trans (hk.mono fun k _ e => by rw [e]; exact HCB.out))
          clear ho hk
          go_wp2_with fail
          refine hK.out _ _ ((HSB2.out.cell 0)) (fun hHeld42 => ?_)
          clear hK K
          try simp only [Act.put, List.setIfInBounds_toArray, List.set_cons_zero, List.set_cons_succ]
          refine wpAnyH_ready (rs := [1, 6]) (by kernel_rfl) (by simp) ?_
          refine rdc 1 (h := fun K hK => ?_) (hs := rdc 6 (h := fun K hK => ?_) (hs := AllReadyH.nil))
          · have y : World.cell? _ ⟨bn, 1, none⟩ = some vk := N2.out.box.cell 1
            go_simp
            clear y
            refine hK.out _ _ ((HSB2.out.cell 0)) (fun hHeld39 => ?_)
            clear hK K
            try simp only [Act.put, List.setIfInBounds_toArray, List.set_cons_zero, List.set_cons_succ]
            refine rd 6 (h := fun K hK => ?_)
            go_simp
            obtain ⟨w3, hwn, hkn, hnb⟩ : ∃ w3, w3 = w2.alloc (.cells #[.string ⟨(gv kw s).1.toArray⟩] 9) ∧ Kp (fun _ => False) w2 w3 ∧ w3.heap[w2.heap.size]? = some (.cells #[.string ⟨(gv kw s).1.toArray⟩] 9 (0, 0)) := ⟨_, rfl, (Kp.refl _ w2).alloc _, heap_alloc_new w2 _⟩
            rw [← hwn]
            obtain ⟨gn, hgn⟩ : ∃ gn, w2.heap.size = gn := ⟨_, rfl⟩
            rw [hgn] at hnb
            try rw [hgn]
            have HNB := Lib.hid hnb
            have HSB3 := Lib.hid (HSB2.out.kp hkn (fun e => e))
            have HZB3 := Lib.hid (HZB2.out.kp hkn (fun e => e))
            have N3 := Lib.hid (N2.out.kp hkn (fun q e => e.elim))
            have O3 := Lib.hid (O2.out.step hkn (fun k e => e.elim) (fun k e => .inl e))
            have K3 : Hid (Kp C w w3) := Lib.hid (K2.out.trans (hkn.mono fun _ _ e => e.elim))
            clear hwn hkn hnb hgn
            refine hK.out _ _ ((HSB3.out.cell 0)) (fun hHeld33 => ?_)
            clear hK K
            try simp only [Act.put, List.setIfInBounds_toArray, List.set_cons_zero, List.set_cons_succ]
            refine rd 7 (h := fun K hK => ?_)
            refine wp_append_at (.tmp 37) (.tmp 42) 24 rfl 0 9 iS (.string ⟨#[]⟩) 1 16 Try.underlying24 s1 s2 s3 s4 rfl (by decide) vk _ (sts (rdEnts true kw vw k (rdKd l).2).1.1) rfl N3.out.k ⟨gn, 0, none⟩ 1 1 [.string ⟨(gv kw s).1.toArray⟩] rfl rfl (World.news_of_block HNB.out) (by simp [Value.oneCell']) (by have := HLK.out; unfold maxLen; omega) (by have := HLK.out; omega) (Nat.zero_le _) ?_
            intro v4 w4 hown hg hat
            obtain ⟨A4, c4, hv4⟩ := own_shape hown
            have HV4 := Lib.hid hv4
            clear hv4
            have hB3 : B ≤ w3.heap.size := Nat.le_trans HB0.out K3.out.size
            have hap := N3.out.appK hB3 ⟨(gv kw s).1.toArray⟩ hown hg hat
            have HSB4 := Lib.hid (HSB3.out.kp (grown_kp hg) (HSB3.out.own_ne N3.out.k (by decide)))
            have hbx := N3.out.box.kp (grown_kp hg) N3.out.bk
            have HBX := Lib.hid hbx
            have HAP := Lib.hid hap
            have HBNB := Lib.hid N3.out.bt
            clear hown hg hat hap hbx hB3
            refine hK.out _ _ ((HSB4.out.cell 0)) (fun hHeld34 => ?_)
            clear hK K
            try simp only [Act.put, List.setIfInBounds_toArray, List.set_cons_zero, List.set_cons_succ]
            refine tk 8 (h := ?_)
            refine rd 9 (h := fun K hK => ?_)
            have y : World.cell? w4 ⟨bn, 1, none⟩ = some vk := HBX.out.cell 1
            have yf : World.frozen? w4 ⟨bn, 1, none⟩ = false := HBX.out.free 1
            rw [HV4.out]
            go_simp
            rw [← HV4.out]
            clear y yf
            refine hK.out _ _ (((HSB4.out.far (p := ⟨bn, 1, none⟩) (by show w.heap.size ≠ bn; have := HNB0.out; omega) v4).cell 0)) (fun hHeld35 => ?_)
            clear hK K
            try simp only [Act.put, List.setIfInBounds_toArray, List.set_cons_zero, List.set_cons_succ]
            refine wpAnyH_done (by kernel_rfl) ?_ _
            obtain ⟨hn5, hk5, hx5⟩ := HAP.out
            have HSB5 := Lib.hid (HSB4.out.far (p := ⟨bn, 1, none⟩) (by show w.heap.size ≠ bn; have := HNB0.out; omega) v4)
            have HZB5 := Lib.hid (HZB3.out.kp hk5 (N3.out.far HZB3.out (by decide) (by decide) (by have := HNB0.out; omega)))
            have N5 := Lib.hid hn5
            have O5 := Lib.hid (O3.out.step hk5 (fun k e => .inl e) hx5)
            have K5 : Hid (Kp C w _) := Lib.hid (K3.out.trans (hk5.mono fun q _ e => HCN.out q (Nat.le_trans HBE.out (N3.out.ge q e))))
            clear hn5 hk5 hx5
            have y0 : World.cell? _ ⟨bn, 0, none⟩ = some (.bool true) := N5.out.box.cell 0
            go_upto_region 13 with fail
            clear y0
            obtain ⟨w6, hw6⟩ : ∃ w6, w6 = w4.setCell ⟨bn, 1, none⟩ v4 := ⟨_, rfl⟩
            rw [← hw6] at HSB5 HZB5 N5 O5 K5 ⊢
            clear HSB1 HZB1 N1 O1 K1 HSB2 HZB2 N2 O2 K2 HSB3 HZB3 N3 O3 K3 HSB4 HBX HAP HNB hw6 hHeld
            obtain ⟨vk5, hvk5⟩ : ∃ vk5, vk5 = v4 := ⟨_, rfl⟩
            rw [← hvk5] at N5 O5 ⊢
            have HSB1 := HSB5
            have HZB1 := HZB5
            have N1 := N5
            have O1 := O5
            have K1 := K5
            clear HSB5 HZB5 N5 O5 K5 hvk5
            have kd : Kp (fun _ => False) w6 w6.drew := (Kp.refl _ w6).drew
            have HSB1 := Lib.hid HSB1.out.drew
            have HZB1 := Lib.hid HZB1.out.drew
            have N1 := Lib.hid (N1.out.kp kd (fun q e => e.elim))
            have O1 := Lib.hid (O1.out.step kd (fun k e => e.elim) (fun k e => .inl e))
            have K1 := Lib.hid K1.out.drew
            clear kd
            refine wp_region_held_drew (S := fun v => v.cell? ⟨w.heap.size, 1, none⟩ = some (.int .i64 (vw : Int))) (by kernel_rfl) ((HSB1.out.cell 1)) (fun hHeld => ?_)
            refine tk 0 (h := ?_)
            refine tk 2 (h := ?_)
            refine tk 3 (h := ?_)
            refine tk 4 (h := ?_)
            refine wpAnyH_ready (rs := [1, 5]) (by kernel_rfl) (by simp) ?_
            refine rdc 1 (h := fun K hK => ?_) (hs := rdc 5 (h := fun K hK => ?_) (hs := AllReadyH.nil))
            · have y : World.cell? _ ⟨bn, 2, none⟩ = some vv := N1.out.box.cell 2
              go_simp
              clear y
              refine hK.out _ _ ((HSB1.out.cell 1)) (fun hHeld55 => ?_)
              clear hK K
              try simp only [Act.put, List.setIfInBounds_toArray, List.set_cons_zero, List.set_cons_succ]
              refine rd 5 (h := fun K hK => ?_)
              go_simp
              refine (text_i O1.out N1.out.lt (Nat.zero_le _) vw).mono ?_
              rintro e w2 ⟨rfl, ho, hk⟩
              have HSB2 := Lib.hid (HSB1.out.kp (w' := w2) hk (fun e => by have := HBL.out; omega))
              have HZB2 := Lib.hid (HZB1.out.kp (w' := w2) hk (fun e => by have := HBL.out; omega))
              have N2 := Lib.hid (N1.out.kp hk (fun q e => by rw [e]; exact O1.out.nb.1))
              have O2 := Lib.hid ho
              have K2 : Hid (Kp C w w2) := Lib.hid (K1.out.trans (hk.mono fun k _ e => by rw [e]; exact HCB.out))
              clear ho hk
              go_wp2_with fail
              refine hK.out _ _ ((HSB2.out.cell 1)) (fun hHeld43 => ?_)
              clear hK K
              try simp only [Act.put, List.setIfInBounds_toArray, List.set_cons_zero, List.set_cons_succ]
              refine rd 6 (h := fun K hK => ?_)
              go_simp
              obtain ⟨w3, hwn, hkn, hnb⟩ : ∃ w3, w3 = w2.alloc (.cells #[.string ⟨(gv vw (gv kw s).2).1.toArray⟩] 9) ∧ Kp (fun _ => False) w2 w3 ∧ w3.heap[w2.heap.size]? = some (.cells #[.string ⟨(gv vw (gv kw s).2).1.toArray⟩] 9 (0, 0)) := ⟨_, rfl, (Kp.refl _ w2).alloc _, heap_alloc_new w2 _⟩
              rw [← hwn]
              obtain ⟨gn, hgn⟩ : ∃ gn, w2.heap.size = gn := ⟨_, rfl⟩
              rw [hgn] at hnb
              try rw [hgn]
              have HNB := Lib.hid hnb
              have HSB3 := Lib.hid (HSB2.out.kp hkn (fun e => e))
              have HZB3 := Lib.hid (HZB2.out.kp hkn (fun e => e))
              have N3 := Lib.hid (N2.out.kp hkn (fun q e => e.elim))
              have O3 := Lib.hid (O2.out.step hkn (fun k e => e.elim) (fun k e => .inl e))
              have K3 : Hid (Kp C w w3) := Lib.hid (K2.out.trans (hkn.mono fun _ _ e => e.elim))
              clear hwn hkn hnb hgn
              refine hK.out _ _ ((HSB3.out.cell 1)) (fun hHeld44 => ?_)
              clear hK K
              try simp only [Act.put, List.setIfInBounds_toArray, List.set_cons_zero, List.set_cons_succ]
              refine rd 7 (h := fun K hK => ?_)
              refine wp_append_at (.tmp 48) (.tmp 53) 24 rfl 0 9 iS (.string ⟨#[]⟩) 1 16 Try.underlying24 s1 s2 s3 s4 rfl (by decide) vv _ (sts (rdEnts true kw vw k (rdKd l).2).1.2) rfl N3.out.v ⟨gn, 0, none⟩ 1 1 [.string ⟨(gv vw (gv kw s).2).1.toArray⟩] rfl rfl (World.news_of_block HNB.out) (by simp [Value.oneCell']) (by have := HLV.out; unfold maxLen; omega) (by have := HLV.out; omega) (Nat.zero_le _) ?_
              intro v4 w4 hown hg hat
              obtain ⟨A4, c4, hv4⟩ := own_shape hown
              have HV4 := Lib.hid hv4
              clear hv4
              have hB3 : B ≤ w3.heap.size := Nat.le_trans HB0.out K3.out.size
              have hap := N3.out.appV hB3 ⟨(gv vw (gv kw s).2).1.toArray⟩ hown hg hat
              have HSB4 := Lib.hid (HSB3.out.kp (grown_kp hg) (HSB3.out.own_ne N3.out.v (by decide)))
              have hbx := N3.out.box.kp (grown_kp hg) N3.out.bv
              have HBX := Lib.hid hbx
              have HAP := Lib.hid hap
              have HBNB := Lib.hid N3.out.bt
              clear hown hg hat hap hbx hB3
              refine hK.out _ _ ((HSB4.out.cell 1)) (fun hHeld45 => ?_)
              clear hK K
              try simp only [Act.put, List.setIfInBounds_toArray, List.set_cons_zero, List.set_cons_succ]
              refine tk 8 (h := ?_)
              refine rd 9 (h := fun K hK => ?_)
              have y : World.cell? w4 ⟨bn, 2, none⟩ = some vv := HBX.out.cell 2
              have yf : World.frozen? w4 ⟨bn, 2, none⟩ = false := HBX.out.free 2
              rw [HV4.out]
              go_simp
              rw [← HV4.out]
              clear y yf
              refine hK.out _ _ (((HSB4.out.far (p := ⟨bn, 2, none⟩) (by show w.heap.size ≠ bn; have := HNB0.out; omega) v4).cell 1)) (fun hHeld46 => ?_)
              clear hK K
              try simp only [Act.put, List.setIfInBounds_toArray, List.set_cons_zero, List.set_cons_succ]
              refine wpAnyH_done (by kernel_rfl) ?_ _
              obtain ⟨hn5, hk5, hx5⟩ := HAP.out
              have HSB5 := Lib.hid (HSB4.out.far (p := ⟨bn, 2, none⟩) (by show w.heap.size ≠ bn; have := HNB0.out; omega) v4)
              have HZB5 := Lib.hid (HZB3.out.kp hk5 (N3.out.far HZB3.out (by decide) (by decide) (by have := HNB0.out; omega)))
              have N5 := Lib.hid hn5
              have O5 := Lib.hid (O3.out.step hk5 (fun k e => .inl e) hx5)
              have K5 : Hid (Kp C w _) := Lib.hid (K3.out.trans (hk5.mono fun q _ e => HCN.out q (Nat.le_trans HBE.out (N3.out.ge q e))))
              clear hn5 hk5 hx5
              go_wp2_with fail
              go_roundw
              case rel =>
                refine ⟨k + 1, vk5, v4, by omega, by go_num, ?_, ?_, HSB5.out, HZB5.out, K5.out⟩
                · rw [rdEnts_t, ← HS.out]
                  exact N5.out
                · rw [rdEnts_t, ← HS.out]
                  exact O5.out
              case measure => simp [Go.RowKit.intOf]; omega
            · go_simp
              refine (text_i O1.out N1.out.lt (Nat.zero_le _) vw).mono ?_
              rintro e w2 ⟨rfl, ho, hk⟩
              have HSB2 := Lib.hid (HSB1.out.kp (w' := w2) hk (fun e => by have := HBL.out; omega))
              have HZB2 := Lib.hid (HZB1.out.kp (w' := w2) hk (fun e => by have := HBL.out; omega))
              have N2 := Lib.hid (N1.out.kp hk (fun q e => by rw [e]; exact O1.out.nb.1))
              have O2 := Lib.hid ho
              have K2 : Hid (Kp C w w2) := Lib.hid (K1.out.trans (hk.mono fun k _ e => by rw [e]; exact HCB.out))
              clear ho hk
              go_wp2_with fail
              refine hK.out _ _ ((HSB2.out.cell 1)) (fun hHeld56 => ?_)
              clear hK K
              try simp only [Act.put, List.setIfInBounds_toArray, List.set_cons_zero, List.set_cons_succ]
              refine wpAnyH_ready (rs := [1, 6]) (by kernel_rfl) (by simp) ?_
              refine rdc 1 (h := fun K hK => ?_) (hs := rdc 6 (h := fun K hK => ?_) (hs := AllReadyH.nil))
              · have y : World.cell? _ ⟨bn, 2, none⟩ = some vv := N2.out.box.cell 2
                go_simp
                clear y
                refine hK.out _ _ ((HSB2.out.cell 1)) (fun hHeld53 => ?_)
                clear hK K
                try simp only [Act.put, List.setIfInBounds_toArray, List.set_cons_zero, List.set_cons_succ]
                refine rd 6 (h := fun K hK => ?_)
                go_simp
                obtain ⟨w3, hwn, hkn, hnb⟩ : ∃ w3, w3 = w2.alloc (.cells #[.string ⟨(gv vw (gv kw s).2).1.toArray⟩] 9) ∧ Kp (fun _ => False) w2 w3 ∧ w3.heap[w2.heap.size]? = some (.cells #[.string ⟨(gv vw (gv kw s).2).1.toArray⟩] 9 (0, 0)) := ⟨_, rfl, (Kp.refl _ w2).alloc _, heap_alloc_new w2 _⟩
                rw [← hwn]
                obtain ⟨gn, hgn⟩ : ∃ gn, w2.heap.size = gn := ⟨_, rfl⟩
                rw [hgn] at hnb
                try rw [hgn]
                have HNB := Lib.hid hnb
                have HSB3 := Lib.hid (HSB2.out.kp hkn (fun e => e))
                have HZB3 := Lib.hid (HZB2.out.kp hkn (fun e => e))
                have N3 := Lib.hid (N2.out.kp hkn (fun q e => e.elim))
                have O3 := Lib.hid (O2.out.step hkn (fun k e => e.elim) (fun k e => .inl e))
                have K3 : Hid (Kp C w w3) := Lib.hid (K2.out.trans (hkn.mono fun _ _ e => e.elim))
                clear hwn hkn hnb hgn
                refine hK.out _ _ ((HSB3.out.cell 1)) (fun hHeld47 => ?_)
                clear hK K
                try simp only [Act.put, List.setIfInBounds_toArray, List.set_cons_zero, List.set_cons_succ]
                refine rd 7 (h := fun K hK => ?_)
                refine wp_append_at (.tmp 48) (.tmp 53) 24 rfl 0 9 iS (.string ⟨#[]⟩) 1 16 Try.underlying24 s1 s2 s3 s4 rfl (by decide) vv _ (sts (rdEnts true kw vw k (rdKd l).2).1.2) rfl N3.out.v ⟨gn, 0, none⟩ 1 1 [.string ⟨(gv vw (gv kw s).2).1.toArray⟩] rfl rfl (World.news_of_block HNB.out) (by simp [Value.oneCell']) (by have := HLV.out; unfold maxLen; omega) (by have := HLV.out; omega) (Nat.zero_le _) ?_
                intro v4 w4 hown hg hat
                obtain ⟨A4, c4, hv4⟩ := own_shape hown
                have HV4 := Lib.hid hv4
                clear hv4
                have hB3 : B ≤ w3.heap.size := Nat.le_trans HB0.out K3.out.size
                have hap := N3.out.appV hB3 ⟨(gv vw (gv kw s).2).1.toArray⟩ hown hg hat
                have HSB4 := Lib.hid (HSB3.out.kp (grown_kp hg) (HSB3.out.own_ne N3.out.v (by decide)))
                have hbx := N3.out.box.kp (grown_kp hg) N3.out.bv
                have HBX := Lib.hid hbx
                have HAP := Lib.hid hap
                have HBNB := Lib.hid N3.out.bt
                clear hown hg hat hap hbx hB3
                refine hK.out _ _ ((HSB4.out.cell 1)) (fun hHeld48 => ?_)
                clear hK K
                try simp only [Act.put, List.setIfInBounds_toArray, List.set_cons_zero, List.set_cons_succ]
                refine tk 8 (h := ?_)
                refine rd 9 (h := fun K hK => ?_)
                have y : World.cell? w4 ⟨bn, 2, none⟩ = some vv := HBX.out.cell 2
                have yf : World.frozen? w4 ⟨bn, 2, none⟩ = false := HBX.out.free 2
                rw [HV4.out]
                go_simp
                rw [← HV4.out]
                clear y yf
                refine hK.out _ _ (((HSB4.out.far (p := ⟨bn, 2, none⟩) (by show w.heap.size ≠ bn; have := HNB0.out; omega) v4).cell 1)) (fun hHeld49 => ?_)
                clear hK K
                try simp only [Act.put, List.setIfInBounds_toArray, List.set_cons_zero, List.set_cons_succ]
                refine wpAnyH_done (by kernel_rfl) ?_ _
                obtain ⟨hn5, hk5, hx5⟩ := HAP.out
                have HSB5 := Lib.hid (HSB4.out.far (p := ⟨bn, 2, none⟩) (by show w.heap.size ≠ bn; have := HNB0.out; omega) v4)
                have HZB5 := Lib.hid (HZB3.out.kp hk5 (N3.out.far HZB3.out (by decide) (by decide) (by have := HNB0.out; omega)))
                have N5 := Lib.hid hn5
                have O5 := Lib.hid (O3.out.step hk5 (fun k e => .inl e) hx5)
                have K5 : Hid (Kp C w _) := Lib.hid (K3.out.trans (hk5.mono fun q _ e => HCN.out q (Nat.le_trans HBE.out (N3.out.ge q e))))
                clear hn5 hk5 hx5
                go_wp2_with fail
                go_roundw
                case rel =>
                  refine ⟨k + 1, vk5, v4, by omega, by go_num, ?_, ?_, HSB5.out, HZB5.out, K5.out⟩
                  · rw [rdEnts_t, ← HS.out]
                    exact N5.out
                  · rw [rdEnts_t, ← HS.out]
                    exact O5.out
                case measure => simp [Go.RowKit.intOf]; omega
              · go_simp
                obtain ⟨w3, hwn, hkn, hnb⟩ : ∃ w3, w3 = w2.alloc (.cells #[.string ⟨(gv vw (gv kw s).2).1.toArray⟩] 9) ∧ Kp (fun _ => False) w2 w3 ∧ w3.heap[w2.heap.size]? = some (.cells #[.string ⟨(gv vw (gv kw s).2).1.toArray⟩] 9 (0, 0)) := ⟨_, rfl, (Kp.refl _ w2).alloc _, heap_alloc_new w2 _⟩
                rw [← hwn]
                obtain ⟨gn, hgn⟩ : ∃ gn, w2.heap.size = gn := ⟨_, rfl⟩
                rw [hgn] at hnb
                try rw [hgn]
                have HNB := Lib.hid hnb
                have HSB3 := Lib.hid (HSB2.out.kp hkn (fun e => e))
                have HZB3 := Lib.hid (HZB2.out.kp hkn (fun e => e))
                have N3 := Lib.hid (N2.out.kp hkn (fun q e => e.elim))
                have O3 := Lib.hid (O2.out.step hkn (fun k e => e.elim) (fun k e => .inl e))
                have K3 : Hid (Kp C w w3) := Lib.hid (K2.out.trans (hkn.mono fun _ _ e => e.elim))
                clear hwn hkn hnb hgn
                refine hK.out _ _ ((HSB3.out.cell 1)) (fun hHeld54 => ?_)
                clear hK K
                try simp only [Act.put, List.setIfInBounds_toArray, List.set_cons_zero, List.set_cons_succ]
                refine rd 1 (h := fun K hK => ?_)
                have y : World.cell? _ ⟨bn, 2, none⟩ = some vv := N3.out.box.cell 2
                go_simp
                clear y
                refine hK.out _ _ ((HSB3.out.cell 1)) (fun hHeld50 => ?_)
                clear hK K
                try simp only [Act.put, List.setIfInBounds_toArray, List.set_cons_zero, List.set_cons_succ]
                refine rd 7 (h := fun K hK => ?_)
                refine wp_append_at (.tmp 48) (.tmp 53) 24 rfl 0 9 iS (.string ⟨#[]⟩) 1 16 Try.underlying24 s1 s2 s3 s4 rfl (by decide) vv _ (sts (rdEnts true kw vw k (rdKd l).2).1.2) rfl N3.out.v ⟨gn, 0, none⟩ 1 1 [.string ⟨(gv vw (gv kw s).2).1.toArray⟩] rfl rfl (World.news_of_block HNB.out) (by simp [Value.oneCell']) (by have := HLV.out; unfold maxLen; omega) (by have := HLV.out; omega) (Nat.zero_le _) ?_
                intro v4 w4 hown hg hat
                obtain ⟨A4, c4, hv4⟩ := own_shape hown
                have HV4 := Lib.hid hv4
                clear hv4
                have hB3 : B ≤ w3.heap.size := Nat.le_trans HB0.out K3.out.size
                have hap := N3.out.appV hB3 ⟨(gv vw (gv kw s).2).1.toArray⟩ hown hg hat
                have HSB4 := Lib.hid (HSB3.out.kp (grown_kp hg) (HSB3.out.own_ne N3.out.v (by decide)))
                have hbx := N3.out.box.kp (grown_kp hg) N3.out.bv
                have HBX := Lib.hid hbx
                have HAP := Lib.hid hap
                have HBNB := Lib.hid N3.out.bt
                clear hown hg hat hap hbx hB3
                refine hK.out _ _ ((HSB4.out.cell 1)) (fun hHeld51 => ?_)
                clear hK K
                try simp only [Act.put, List.setIfInBounds_toArray, List.set_cons_zero, List.set_cons_succ]
                refine tk 8 (h := ?_)
                refine rd 9 (h := fun K hK => ?_)
                have y : World.cell? w4 ⟨bn, 2, none⟩ = some vv := HBX.out.cell 2
                have yf : World.frozen? w4 ⟨bn, 2, none⟩ = false := HBX.out.free 2
                rw [HV4.out]
                go_simp
                rw [← HV4.out]
                clear y yf
                refine hK.out _ _ (((HSB4.out.far (p := ⟨bn, 2, none⟩) (by show w.heap.size ≠ bn; have := HNB0.out; omega) v4).cell 1)) (fun hHeld52 => ?_)
                clear hK K
                try simp only [Act.put, List.setIfInBounds_toArray, List.set_cons_zero, List.set_cons_succ]
                refine wpAnyH_done (by kernel_rfl) ?_ _
                obtain ⟨hn5, hk5, hx5⟩ := HAP.out
                have HSB5 := Lib.hid (HSB4.out.far (p := ⟨bn, 2, none⟩) (by show w.heap.size ≠ bn; have := HNB0.out; omega) v4)
                have HZB5 := Lib.hid (HZB3.out.kp hk5 (N3.out.far HZB3.out (by decide) (by decide) (by have := HNB0.out; omega)))
                have N5 := Lib.hid hn5
                have O5 := Lib.hid (O3.out.step hk5 (fun k e => .inl e) hx5)
                have K5 : Hid (Kp C w _) := Lib.hid (K3.out.trans (hk5.mono fun q _ e => HCN.out q (Nat.le_trans HBE.out (N3.out.ge q e))))
                clear hn5 hk5 hx5
                go_wp2_with fail
                go_roundw
                case rel =>
                  refine ⟨k + 1, vk5, v4, by omega, by go_num, ?_, ?_, HSB5.out, HZB5.out, K5.out⟩
                  · rw [rdEnts_t, ← HS.out]
                    exact N5.out
                  · rw [rdEnts_t, ← HS.out]
                    exact O5.out
                case measure => simp [Go.RowKit.intOf]; omega
          · go_simp
            obtain ⟨w3, hwn, hkn, hnb⟩ : ∃ w3, w3 = w2.alloc (.cells #[.string ⟨(gv kw s).1.toArray⟩] 9) ∧ Kp (fun _ => False) w2 w3 ∧ w3.heap[w2.heap.size]? = some (.cells #[.string ⟨(gv kw s).1.toArray⟩] 9 (0, 0)) := ⟨_, rfl, (Kp.refl _ w2).alloc _, heap_alloc_new w2 _⟩
            rw [← hwn]
            obtain ⟨gn, hgn⟩ : ∃ gn, w2.heap.size = gn := ⟨_, rfl⟩
            rw [hgn] at hnb
            try rw [hgn]
            have HNB := Lib.hid hnb
            have HSB3 := Lib.hid (HSB2.out.kp hkn (fun e => e))
            have HZB3 := Lib.hid (HZB2.out.kp hkn (fun e => e))
            have N3 := Lib.hid (N2.out.kp hkn (fun q e => e.elim))
            have O3 := Lib.hid (O2.out.step hkn (fun k e => e.elim) (fun k e => .inl e))
            have K3 : Hid (Kp C w w3) := Lib.hid (K2.out.trans (hkn.mono fun _ _ e => e.elim))
            clear hwn hkn hnb hgn
            refine hK.out _ _ ((HSB3.out.cell 0)) (fun hHeld40 => ?_)
            clear hK K
            try simp only [Act.put, List.setIfInBounds_toArray, List.set_cons_zero, List.set_cons_succ]
            refine rd 1 (h := fun K hK => ?_)
            have y : World.cell? _ ⟨bn, 1, none⟩ = some vk := N3.out.box.cell 1
            go_simp
            clear y
            refine hK.out _ _ ((HSB3.out.cell 0)) (fun hHeld36 => ?_)
            clear hK K
            try simp only [Act.put, List.setIfInBounds_toArray, List.set_cons_zero, List.set_cons_succ]
            refine rd 7 (h := fun K hK => ?_)
            refine wp_append_at (.tmp 37) (.tmp 42) 24 rfl 0 9 iS (.string ⟨#[]⟩) 1 16 Try.underlying24 s1 s2 s3 s4 rfl (by decide) vk _ (sts (rdEnts true kw vw k (rdKd l).2).1.1) rfl N3.out.k ⟨gn, 0, none⟩ 1 1 [.string ⟨(gv kw s).1.toArray⟩] rfl rfl (World.news_of_block HNB.out) (by simp [Value.oneCell']) (by have := HLK.out; unfold maxLen; omega) (by have := HLK.out; omega) (Nat.zero_le _) ?_
            intro v4 w4 hown hg hat
            obtain ⟨A4, c4, hv4⟩ := own_shape hown
            have HV4 := Lib.hid hv4
            clear hv4
            have hB3 : B ≤ w3.heap.size := Nat.le_trans HB0.out K3.out.size
            have hap := N3.out.appK hB3 ⟨(gv kw s).1.toArray⟩ hown hg hat
            have HSB4 := Lib.hid (HSB3.out.kp (grown_kp hg) (HSB3.out.own_ne N3.out.k (by decide)))
            have hbx := N3.out.box.kp (grown_kp hg) N3.out.bk
            have HBX := Lib.hid hbx
            have HAP := Lib.hid hap
            have HBNB := Lib.hid N3.out.bt
            clear hown hg hat hap hbx hB3
            refine hK.out _ _ ((HSB4.out.cell 0)) (fun hHeld37 => ?_)
            clear hK K
            try simp only [Act.put, List.setIfInBounds_toArray, List.set_cons_zero, List.set_cons_succ]
            refine tk 8 (h := ?_)
            refine rd 9 (h := fun K hK => ?_)
            have y : World.cell? w4 ⟨bn, 1, none⟩ = some vk := HBX.out.cell 1
            have yf : World.frozen? w4 ⟨bn, 1, none⟩ = false := HBX.out.free 1
            rw [HV4.out]
            go_simp
            rw [← HV4.out]
            clear y yf
            refine hK.out _ _ (((HSB4.out.far (p := ⟨bn, 1, none⟩) (by show w.heap.size ≠ bn; have := HNB0.out; omega) v4).cell 0)) (fun hHeld38 => ?_)
            clear hK K
            try simp only [Act.put, List.setIfInBounds_toArray, List.set_cons_zero, List.set_cons_succ]
            refine wpAnyH_done (by kernel_rfl) ?_ _
            obtain ⟨hn5, hk5, hx5⟩ := HAP.out
            have HSB5 := Lib.hid (HSB4.out.far (p := ⟨bn, 1, none⟩) (by show w.heap.size ≠ bn; have := HNB0.out; omega) v4)
            have HZB5 := Lib.hid (HZB3.out.kp hk5 (N3.out.far HZB3.out (by decide) (by decide) (by have := HNB0.out; omega)))
            have N5 := Lib.hid hn5
            have O5 := Lib.hid (O3.out.step hk5 (fun k e => .inl e) hx5)
            have K5 : Hid (Kp C w _) := Lib.hid (K3.out.trans (hk5.mono fun q _ e => HCN.out q (Nat.le_trans HBE.out (N3.out.ge q e))))
            clear hn5 hk5 hx5
            have y0 : World.cell? _ ⟨bn, 0, none⟩ = some (.bool true) := N5.out.box.cell 0
            go_upto_region 13 with fail
            clear y0
            obtain ⟨w6, hw6⟩ : ∃ w6, w6 = w4.setCell ⟨bn, 1, none⟩ v4 := ⟨_, rfl⟩
            rw [← hw6] at HSB5 HZB5 N5 O5 K5 ⊢
            clear HSB1 HZB1 N1 O1 K1 HSB2 HZB2 N2 O2 K2 HSB3 HZB3 N3 O3 K3 HSB4 HBX HAP HNB hw6 hHeld
            obtain ⟨vk5, hvk5⟩ : ∃ vk5, vk5 = v4 := ⟨_, rfl⟩
            rw [← hvk5] at N5 O5 ⊢
            have HSB1 := HSB5
            have HZB1 := HZB5
            have N1 := N5
            have O1 := O5
            have K1 := K5
            clear HSB5 HZB5 N5 O5 K5 hvk5
            have kd : Kp (fun _ => False) w6 w6.drew := (Kp.refl _ w6).drew
            have HSB1 := Lib.hid HSB1.out.drew
            have HZB1 := Lib.hid HZB1.out.drew
            have N1 := Lib.hid (N1.out.kp kd (fun q e => e.elim))
            have O1 := Lib.hid (O1.out.step kd (fun k e => e.elim) (fun k e => .inl e))
            have K1 := Lib.hid K1.out.drew
            clear kd
            refine wp_region_held_drew (S := fun v => v.cell? ⟨w.heap.size, 1, none⟩ = some (.int .i64 (vw : Int))) (by kernel_rfl) ((HSB1.out.cell 1)) (fun hHeld => ?_)
            refine tk 0 (h := ?_)
            refine tk 2 (h := ?_)
            refine tk 3 (h := ?_)
            refine tk 4 (h := ?_)
            refine wpAnyH_ready (rs := [1, 5]) (by kernel_rfl) (by simp) ?_
            refine rdc 1 (h := fun K hK => ?_) (hs := rdc 5 (h := fun K hK => ?_) (hs := AllReadyH.nil))
            · have y : World.cell? _ ⟨bn, 2, none⟩ = some vv := N1.out.box.cell 2
              go_simp
              clear y
              refine hK.out _ _ ((HSB1.out.cell 1)) (fun hHeld55 => ?_)
              clear hK K
              try simp only [Act.put, List.setIfInBounds_toArray, List.set_cons_zero, List.set_cons_succ]
              refine rd 5 (h := fun K hK => ?_)
              go_simp
              refine (text_i O1.out N1.out.lt (Nat.zero_le _) vw).mono ?_
              rintro e w2 ⟨rfl, ho, hk⟩
              have HSB2 := Lib.hid (HSB1.out.kp (w' := w2) hk (fun e => by have := HBL.out; omega))
              have HZB2 := Lib.hid (HZB1.out.kp (w' := w2) hk (fun e => by have := HBL.out; omega))
              have N2 := Lib.hid (N1.out.kp hk (fun q e => by rw [e]; exact O1.out.nb.1))
              have O2 := Lib.hid ho
              have K2 : Hid (Kp C w w2) := Lib.hid (K1.out.trans (hk.mono fun k _ e => by rw [e]; exact HCB.out))
              clear ho hk
              go_wp2_with fail
              refine hK.out _ _ ((HSB2.out.cell 1)) (fun hHeld43 => ?_)
              clear hK K
              try simp only [Act.put, List.setIfInBounds_toArray, List.set_cons_zero, List.set_cons_succ]
              refine rd 6 (h := fun K hK => ?_)
              go_simp
              obtain ⟨w3, hwn, hkn, hnb⟩ : ∃ w3, w3 = w2.alloc (.cells #[.string ⟨(gv vw (gv kw s).2).1.toArray⟩] 9) ∧ Kp (fun _ => False) w2 w3 ∧ w3.heap[w2.heap.size]? = some (.cells #[.string ⟨(gv vw (gv kw s).2).1.toArray⟩] 9 (0, 0)) := ⟨_, rfl, (Kp.refl _ w2).alloc _, heap_alloc_new w2 _⟩
              rw [← hwn]
              obtain ⟨gn, hgn⟩ : ∃ gn, w2.heap.size = gn := ⟨_, rfl⟩
              rw [hgn] at hnb
              try rw [hgn]
              have HNB := Lib.hid hnb
              have HSB3 := Lib.hid (HSB2.out.kp hkn (fun e => e))
              have HZB3 := Lib.hid (HZB2.out.kp hkn (fun e => e))
              have N3 := Lib.hid (N2.out.kp hkn (fun q e => e.elim))
              have O3 := Lib.hid (O2.out.step hkn (fun k e => e.elim) (fun k e => .inl e))
              have K3 : Hid (Kp C w w3) := Lib.hid (K2.out.trans (hkn.mono fun _ _ e => e.elim))
              clear hwn hkn hnb hgn
              refine hK.out _ _ ((HSB3.out.cell 1)) (fun hHeld44 => ?_)
              clear hK K
              try simp only [Act.put, List.setIfInBounds_toArray, List.set_cons_zero, List.set_cons_succ]
              refine rd 7 (h := fun K hK => ?_)
              refine wp_append_at (.tmp 48) (.tmp 53) 24 rfl 0 9 iS (.string ⟨#[]⟩) 1 16 Try.underlying24 s1 s2 s3 s4 rfl (by decide) vv _ (sts (rdEnts true kw vw k (rdKd l).2).1.2) rfl N3.out.v ⟨gn, 0, none⟩ 1 1 [.string ⟨(gv vw (gv kw s).2).1.toArray⟩] rfl rfl (World.news_of_block HNB.out) (by simp [Value.oneCell']) (by have := HLV.out; unfold maxLen; omega) (by have := HLV.out; omega) (Nat.zero_le _) ?_
              intro v4 w4 hown hg hat
              obtain ⟨A4, c4, hv4⟩ := own_shape hown
              have HV4 := Lib.hid hv4
              clear hv4
              have hB3 : B ≤ w3.heap.size := Nat.le_trans HB0.out K3.out.size
              have hap := N3.out.appV hB3 ⟨(gv vw (gv kw s).2).1.toArray⟩ hown hg hat
              have HSB4 := Lib.hid (HSB3.out.kp (grown_kp hg) (HSB3.out.own_ne N3.out.v (by decide)))
              have hbx := N3.out.box.kp (grown_kp hg) N3.out.bv
              have HBX := Lib.hid hbx
              have HAP := Lib.hid hap
              have HBNB := Lib.hid N3.out.bt
              clear hown hg hat hap hbx hB3
              refine hK.out _ _ ((HSB4.out.cell 1)) (fun hHeld45 => ?_)
              clear hK K
              try simp only [Act.put, List.setIfInBounds_toArray, List.set_cons_zero, List.set_cons_succ]
              refine tk 8 (h := ?_)
              refine rd 9 (h := fun K hK => ?_)
              have y : World.cell? w4 ⟨bn, 2, none⟩ = some vv := HBX.out.cell 2
              have yf : World.frozen? w4 ⟨bn, 2, none⟩ = false := HBX.out.free 2
              rw [HV4.out]
              go_simp
              rw [← HV4.out]
              clear y yf
              refine hK.out _ _ (((HSB4.out.far (p := ⟨bn, 2, none⟩) (by show w.heap.size ≠ bn; have := HNB0.out; omega) v4).cell 1)) (fun hHeld46 => ?_)
              clear hK K
              try simp only [Act.put, List.setIfInBounds_toArray, List.set_cons_zero, List.set_cons_succ]
              refine wpAnyH_done (by kernel_rfl) ?_ _
              obtain ⟨hn5, hk5, hx5⟩ := HAP.out
              have HSB5 := Lib.hid (HSB4.out.far (p := ⟨bn, 2, none⟩) (by show w.heap.size ≠ bn; have := HNB0.out; omega) v4)
              have HZB5 := Lib.hid (HZB3.out.kp hk5 (N3.out.far HZB3.out (by decide) (by decide) (by have := HNB0.out; omega)))
              have N5 := Lib.hid hn5
              have O5 := Lib.hid (O3.out.step hk5 (fun k e => .inl e) hx5)
              have K5 : Hid (Kp C w _) := Lib.hid (K3.out.trans (hk5.mono fun q _ e => HCN.out q (Nat.le_trans HBE.out (N3.out.ge q e))))
              clear hn5 hk5 hx5
              go_wp2_with fail
              go_roundw
              case rel =>
                refine ⟨k + 1, vk5, v4, by omega, by go_num, ?_, ?_, HSB5.out, HZB5.out, K5.out⟩
                · rw [rdEnts_t, ← HS.out]
                  exact N5.out
                · rw [rdEnts_t, ← HS.out]
                  exact O5.out
              case measure => simp [Go.RowKit.intOf]; omega
            · go_simp
              refine (text_i O1.out N1.out.lt (Nat.zero_le _) vw).mono ?_
              rintro e w2 ⟨rfl, ho, hk⟩
              have HSB2 := Lib.hid (HSB1.out.kp (w' := w2) hk (fun e => by have := HBL.out; omega))
              have HZB2 := Lib.hid (HZB1.out.kp (w' := w2) hk (fun e => by have := HBL.out; omega))
              have N2 := Lib.hid (N1.out.kp hk (fun q e => by rw [e]; exact O1.out.nb.1))
              have O2 := Lib.hid ho
              have K2 : Hid (Kp C w w2) := Lib.hid (K1.out.trans (hk.mono fun k _ e => by rw [e]; exact HCB.out))
              clear ho hk
              go_wp2_with fail
              refine hK.out _ _ ((HSB2.out.cell 1)) (fun hHeld56 => ?_)
              clear hK K
              try simp only [Act.put, List.setIfInBounds_toArray, List.set_cons_zero, List.set_cons_succ]
              refine wpAnyH_ready (rs := [1, 6]) (by kernel_rfl) (by simp) ?_
              refine rdc 1 (h := fun K hK => ?_) (hs := rdc 6 (h := fun K hK => ?_) (hs := AllReadyH.nil))
              · have y : World.cell? _ ⟨bn, 2, none⟩ = some vv := N2.out.box.cell 2
                go_simp
                clear y
                refine hK.out _ _ ((HSB2.out.cell 1)) (fun hHeld53 => ?_)
                clear hK K
                try simp only [Act.put, List.setIfInBounds_toArray, List.set_cons_zero, List.set_cons_succ]
                refine rd 6 (h := fun K hK => ?_)
                go_simp
                obtain ⟨w3, hwn, hkn, hnb⟩ : ∃ w3, w3 = w2.alloc (.cells #[.string ⟨(gv vw (gv kw s).2).1.toArray⟩] 9) ∧ Kp (fun _ => False) w2 w3 ∧ w3.heap[w2.heap.size]? = some (.cells #[.string ⟨(gv vw (gv kw s).2).1.toArray⟩] 9 (0, 0)) := ⟨_, rfl, (Kp.refl _ w2).alloc _, heap_alloc_new w2 _⟩
                rw [← hwn]
                obtain ⟨gn, hgn⟩ : ∃ gn, w2.heap.size = gn := ⟨_, rfl⟩
                rw [hgn] at hnb
                try rw [hgn]
                have HNB := Lib.hid hnb
                have HSB3 := Lib.hid (HSB2.out.kp hkn (fun e => e))
                have HZB3 := Lib.hid (HZB2.out.kp hkn (fun e => e))
                have N3 := Lib.hid (N2.out.kp hkn (fun q e => e.elim))
                have O3 := Lib.hid (O2.out.step hkn (fun k e => e.elim) (fun k e => .inl e))
                have K3 : Hid (Kp C w w3) := Lib.hid (K2.out.trans (hkn.mono fun _ _ e => e.elim))
                clear hwn hkn hnb hgn
                refine hK.out _ _ ((HSB3.out.cell 1)) (fun hHeld47 => ?_)
                clear hK K
                try simp only [Act.put, List.setIfInBounds_toArray, List.set_cons_zero, List.set_cons_succ]
                refine rd 7 (h := fun K hK => ?_)
                refine wp_append_at (.tmp 48) (.tmp 53) 24 rfl 0 9 iS (.string ⟨#[]⟩) 1 16 Try.underlying24 s1 s2 s3 s4 rfl (by decide) vv _ (sts (rdEnts true kw vw k (rdKd l).2).1.2) rfl N3.out.v ⟨gn, 0, none⟩ 1 1 [.string ⟨(gv vw (gv kw s).2).1.toArray⟩] rfl rfl (World.news_of_block HNB.out) (by simp [Value.oneCell']) (by have := HLV.out; unfold maxLen; omega) (by have := HLV.out; omega) (Nat.zero_le _) ?_
                intro v4 w4 hown hg hat
                obtain ⟨A4, c4, hv4⟩ := own_shape hown
                have HV4 := Lib.hid hv4
                clear hv4
                have hB3 : B ≤ w3.heap.size := Nat.le_trans HB0.out K3.out.size
                have hap := N3.out.appV hB3 ⟨(gv vw (gv kw s).2).1.toArray⟩ hown hg hat
                have HSB4 := Lib.hid (HSB3.out.kp (grown_kp hg) (HSB3.out.own_ne N3.out.v (by decide)))
                have hbx := N3.out.box.kp (grown_kp hg) N3.out.bv
                have HBX := Lib.hid hbx
                have HAP := Lib.hid hap
                have HBNB := Lib.hid N3.out.bt
                clear hown hg hat hap hbx hB3
                refine hK.out _ _ ((HSB4.out.cell 1)) (fun hHeld48 => ?_)
                clear hK K
                try simp only [Act.put, List.setIfInBounds_toArray, List.set_cons_zero, List.set_cons_succ]
                refine tk 8 (h := ?_)
                refine rd 9 (h := fun K hK => ?_)
                have y : World.cell? w4 ⟨bn, 2, none⟩ = some vv := HBX.out.cell 2
                have yf : World.frozen? w4 ⟨bn, 2, none⟩ = false := HBX.out.free 2
                rw [HV4.out]
                go_simp
                rw [← HV4.out]
                clear y yf
                refine hK.out _ _ (((HSB4.out.far (p := ⟨bn, 2, none⟩) (by show w.heap.size ≠ bn; have := HNB0.out; omega) v4).cell 1)) (fun hHeld49 => ?_)
                clear hK K
                try simp only [Act.put, List.setIfInBounds_toArray, List.set_cons_zero, List.set_cons_succ]
                refine wpAnyH_done (by kernel_rfl) ?_ _
                obtain ⟨hn5, hk5, hx5⟩ := HAP.out
                have HSB5 := Lib.hid (HSB4.out.far (p := ⟨bn, 2, none⟩) (by show w.heap.size ≠ bn; have := HNB0.out; omega) v4)
                have HZB5 := Lib.hid (HZB3.out.kp hk5 (N3.out.far HZB3.out (by decide) (by decide) (by have := HNB0.out; omega)))
                have N5 := Lib.hid hn5
                have O5 := Lib.hid (O3.out.step hk5 (fun k e => .inl e) hx5)
                have K5 : Hid (Kp C w _) := Lib.hid (K3.out.trans (hk5.mono fun q _ e => HCN.out q (Nat.le_trans HBE.out (N3.out.ge q e))))
                clear hn5 hk5 hx5
                go_wp2_with fail
                go_roundw
                case rel =>
                  refine ⟨k + 1, vk5, v4, by omega, by go_num, ?_, ?_, HSB5.out, HZB5.out, K5.out⟩
                  · rw [rdEnts_t, ← HS.out]
                    exact N5.out
                  · rw [rdEnts_t, ← HS.out]
                    exact O5.out
                case measure => simp [Go.RowKit.intOf]; omega
              · go_simp
                obtain ⟨w3, hwn, hkn, hnb⟩ : ∃ w3, w3 = w2.alloc (.cells #[.string ⟨(gv vw (gv kw s).2).1.toArray⟩] 9) ∧ Kp (fun _ => False) w2 w3 ∧ w3.heap[w2.heap.size]? = some (.cells #[.string ⟨(gv vw (gv kw s).2).1.toArray⟩] 9 (0, 0)) := ⟨_, rfl, (Kp.refl _ w2).alloc _, heap_alloc_new w2 _⟩
                rw [← hwn]
                obtain ⟨gn, hgn⟩ : ∃ gn, w2.heap.size = gn := ⟨_, rfl⟩
                rw [hgn] at hnb
                try rw [hgn]
                have HNB := Lib.hid hnb
                have HSB3 := Lib.hid (HSB2.out.kp hkn (fun e => e))
                have HZB3 := Lib.hid (HZB2.out.kp hkn (fun e => e))
                have N3 := Lib.hid (N2.out.kp hkn (fun q e => e.elim))
                have O3 := Lib.hid (O2.out.step hkn (fun k e => e.elim) (fun k e => .inl e))
                have K3 : Hid (Kp C w w3) := Lib.hid (K2.out.trans (hkn.mono fun _ _ e => e.elim))
                clear hwn hkn hnb hgn
                refine hK.out _ _ ((HSB3.out.cell 1)) (fun hHeld54 => ?_)
                clear hK K
                try simp only [Act.put, List.setIfInBounds_toArray, List.set_cons_zero, List.set_cons_succ]
                refine rd 1 (h := fun K hK => ?_)
                have y : World.cell? _ ⟨bn, 2, none⟩ = some vv := N3.out.box.cell 2
                go_simp
                clear y
                refine hK.out _ _ ((HSB3.out.cell 1)) (fun hHeld50 => ?_)
                clear hK K
                try simp only [Act.put, List.setIfInBounds_toArray, List.set_cons_zero, List.set_cons_succ]
                refine rd 7 (h := fun K hK => ?_)
                refine wp_append_at (.tmp 48) (.tmp 53) 24 rfl 0 9 iS (.string ⟨#[]⟩) 1 16 Try.underlying24 s1 s2 s3 s4 rfl (by decide) vv _ (sts (rdEnts true kw vw k (rdKd l).2).1.2) rfl N3.out.v ⟨gn, 0, none⟩ 1 1 [.string ⟨(gv vw (gv kw s).2).1.toArray⟩] rfl rfl (World.news_of_block HNB.out) (by simp [Value.oneCell']) (by have := HLV.out; unfold maxLen; omega) (by have := HLV.out; omega) (Nat.zero_le _) ?_
                intro v4 w4 hown hg hat
                obtain ⟨A4, c4, hv4⟩ := own_shape hown
                have HV4 := Lib.hid hv4
                clear hv4
                have hB3 : B ≤ w3.heap.size := Nat.le_trans HB0.out K3.out.size
                have hap := N3.out.appV hB3 ⟨(gv vw (gv kw s).2).1.toArray⟩ hown hg hat
                have HSB4 := Lib.hid (HSB3.out.kp (grown_kp hg) (HSB3.out.own_ne N3.out.v (by decide)))
                have hbx := N3.out.box.kp (grown_kp hg) N3.out.bv
                have HBX := Lib.hid hbx
                have HAP := Lib.hid hap
                have HBNB := Lib.hid N3.out.bt
                clear hown hg hat hap hbx hB3
                refine hK.out _ _ ((HSB4.out.cell 1)) (fun hHeld51 => ?_)
                clear hK K
                try simp only [Act.put, List.setIfInBounds_toArray, List.set_cons_zero, List.set_cons_succ]
                refine tk 8 (h := ?_)
                refine rd 9 (h := fun K hK => ?_)
                have y : World.cell? w4 ⟨bn, 2, none⟩ = some vv := HBX.out.cell 2
                have yf : World.frozen? w4 ⟨bn, 2, none⟩ = false := HBX.out.free 2
                rw [HV4.out]
                go_simp
                rw [← HV4.out]
                clear y yf
                refine hK.out _ _ (((HSB4.out.far (p := ⟨bn, 2, none⟩) (by show w.heap.size ≠ bn; have := HNB0.out; omega) v4).cell 1)) (fun hHeld52 => ?_)
                clear hK K
                try simp only [Act.put, List.setIfInBounds_toArray, List.set_cons_zero, List.set_cons_succ]
                refine wpAnyH_done (by kernel_rfl) ?_ _
                obtain ⟨hn5, hk5, hx5⟩ := HAP.out
                have HSB5 := Lib.hid (HSB4.out.far (p := ⟨bn, 2, none⟩) (by show w.heap.size ≠ bn; have := HNB0.out; omega) v4)
                have HZB5 := Lib.hid (HZB3.out.kp hk5 (N3.out.far HZB3.out (by decide) (by decide) (by have := HNB0.out; omega)))
                have N5 := Lib.hid hn5
                have O5 := Lib.hid (O3.out.step hk5 (fun k e => .inl e) hx5)
                have K5 : Hid (Kp C w _) := Lib.hid (K3.out.trans (hk5.mono fun q _ e => HCN.out q (Nat.le_trans HBE.out (N3.out.ge q e))))
                clear hn5 hk5 hx5
                go_wp2_with fail
                go_roundw
                case rel =>
                  refine ⟨k + 1, vk5, v4, by omega, by go_num, ?_, ?_, HSB5.out, HZB5.out, K5.out⟩
                  · rw [rdEnts_t, ← HS.out]
                    exact N5.out
                  · rw [rdEnts_t, ← HS.out]
                    exact O5.out
                case measure => simp [Go.RowKit.intOf]; omega
      · obtain rfl : k = cnt := by omega
        have hrn : readN kw vw l = ⟨true, (rdEnts true kw vw k (rdKd l).2).1.1, (rdEnts true kw vw k (rdKd l).2).1.2, []⟩ := by
          unfold readN rdEn
          rw [HLF.out, ← HC.out]
          try simp [rdKd, HLF.out]
        have HRN := Lib.hid hrn
        clear hrn
        go_wp2_with (first | (refine wpList_load_mid rfl 36 (.tmp 5) rfl bn 0 rfl [.bool true, vk, vv, (.slice none 0 0)] _ N1.out.box.range Try.underlying36 rfl (by kernel_rfl) ?_) | (refine nstore_box rfl 36 (.tmp 4) (.tmp 57) rfl (w.heap.size + 1) [.bool true, vk, vv, (.slice none 0 0)] rfl rfl HZB1.out rfl (by kernel_rfl) ?_ ?_) | fail)
        · intro u hu
          simp only [List.mem_cons, List.not_mem_nil, or_false] at hu
          rcases hu with rfl | rfl | rfl | rfl
          · rfl
          · exact own_one N1.out.k
          · exact own_one N1.out.v
          · exact own_one N1.out.c
        intro w9 hb9 hk9
        have N9 := N1.out.kp hk9 (fun q e hx => by subst e; exact N1.out.far HZB1.out (by decide) (by decide) (by have := HNB0.out; omega) hx)
        obtain ⟨p, hp, hr⟩ := N9.node
        have HB9 := Lib.hid hb9
        have HP := Lib.hid hp
        have HR9 := Lib.hid hr
        have HK9 := Lib.hid (K1.out.trans (hk9.mono fun q _ e => by rw [e]; exact HCN.out _ (by omega)))
        clear hb9 hk9 N9 hp hr
        go_wp2_with fail
        refine bodyPost_ret (v := .agg #[.bool true, vk, vv, (.slice none 0 0)]) ?_ rfl ?_
        · exact results_cell_row Hr.out _ _ (w.heap.size + 1) _ _ (0, 0) _ rfl HB9.out Try.underlying36 rfl (by kernel_rfl)
        · rw [HRN.out]
          exact ⟨p, by rw [HP.out], HR9.out, HK9.out⟩
end Go.Proofs.Ytjapnkpicefadaa
