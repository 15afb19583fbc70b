/- What the reader of a chunk gives, whatever the bytes. Condition: an opener of them. -/
import Derived.Test.YtoonihhjdmkflaaChGrow
namespace Go.Proofs.Ytoonihhjdmkflaa
open Go.RowKit

/-- The reader under way. -/
structure Cu (w v : World) (b g kind : Nat) (data : ByteArray) (vs : Value) (ks : List Kd) (s : List UInt8 × Bool) : Prop where
  c : Cg 25 46 (w.heap.size + 1) v g kind data vs ks
  o : Oi 0 (fun q => q = w.heap.size ∨ CX g vs q) v b s
  r : Box v w.heap.size 25 (ccs ck0 none 0)
  kp : Kp (fun k => k = b) w v
  lt : b < w.heap.size
section
variable {w v v' : World} {b g kind : Nat} {data : ByteArray} {vs vs' : Value} {ks : List Kd} {s s' : List UInt8 × Bool}
theorem Cu.xlt (h : Cu w v b g kind data vs ks s) : ∀ k, (k = w.heap.size ∨ CX g vs k) → k < v.heap.size := fun k e => by
  rcases e with e | e
  · have := h.r.lt; omega
  · exact h.c.lt k e
theorem Cu.call (h : Cu w v b g kind data vs ks s) (hk : Kp (fun k => k = b) v v') (ho : Oi 0 (fun q => q = w.heap.size ∨ CX g vs q) v' b s') : Cu w v' b g kind data vs ks s' :=
  ⟨h.c.kp hk (fun q e x => by have := h.c.ge q x; have := h.lt; omega), ho, h.r.kp hk (fun e => by have := h.lt; omega), h.kp.trans hk, h.lt⟩
theorem Cu.still (h : Cu w v b g kind data vs ks s) (hk : Kp (fun _ => False) v v') : Cu w v' b g kind data vs ks s :=
  ⟨h.c.still hk, h.o.step hk (fun _k e => e.elim) (fun _k e => .inl e), h.r.kp hk (fun e => e), h.kp.trans (hk.mono fun _ _ e => e.elim), h.lt⟩
theorem Cu.app (h : Cu w v b g kind data vs ks s) (x : Kd) (hx : x.Ok) (ho : v'.ownsRow 0 46 36 vs' (ks.length + 1) (kss ks ++ kcs x)) (hg : v.grownBy v' vs.ownBlock) (ha : vs'.ownBlock = vs.ownBlock ∨ vs'.ownBlock = some v.heap.size) :
    Cu w (v'.setCell ⟨g, 2, none⟩ vs') b g kind data vs' (ks ++ [x]) s := by
  have hB : w.heap.size + 1 ≤ v.heap.size := h.r.lt
  obtain ⟨h1, h2, h3⟩ := h.c.app hB x hx ho hg ha
  refine ⟨h1, h.o.step h2 (fun k e => .inl (.inr e)) (fun k e => ?_), h.r.kp h2 (fun e => by have := h.c.ge _ e; omega), h.kp.trans_new h2 (fun q e => .inl (by have := h.c.ge _ e; omega)), h.lt⟩
  rcases e with e | e
  · exact .inl (.inl e)
  · rcases h3 k e with e | e
    · exact .inl (.inr e)
    · exact .inr e
end
theorem rdKs_next (kind n : Nat) (s : List UInt8 × Bool) : (rdKs kind (n + 1) s).1 = (rdKs kind n s).1 ++ [(rdKd' kind (rdKs kind n s).2).1] ∧ (rdKs kind (n + 1) s).2 = (rdKd' kind (rdKs kind n s).2).2 := ⟨rfl, rfl⟩
def ReadEnd (l : List UInt8) (b : Nat) (w : World) (e : Ending) (w' : World) : Prop := ∃ A n, e = .returned (.agg (ccs (readC l) A n)) ∧ CkR w' (readC l) A n ∧ Kp (fun k => k = b) w w'

set_option maxRecDepth 100000 in
set_option maxHeartbeats 8000000 in
theorem read_any (l : List UInt8) (b : Nat) (w : World) (ho : Oi 0 (fun _ => False) w b (l, false)) (_hl : l.length ≤ maxLen) :
    Calls Try.prog 14 #[.pointer (some ⟨b, 0, none⟩)] w (ReadEnd l b w) := by
  have Hr : Hid (Try.f14.results = #[.cell 2 25]) := Lib.hid (by kernel_rfl)
  obtain ⟨iK, zK, i1, i2, i3, i4, i5⟩ := infoKid
  obtain ⟨W, hW, b2, k0⟩ : ∃ W, W = w.alloc (.cells (ccs ck0 none 0) 25) ∧ Box W w.heap.size 25 (ccs ck0 none 0) ∧ Kp (fun _ => False) w W := ⟨_, rfl, Box.new w _ _, (Kp.refl _ w).alloc _⟩
  have HW := Lib.hid hW
  have B2 := Lib.hid b2
  have K0 := Lib.hid k0
  have O0 : Hid (Oi 0 (fun q => q = w.heap.size) W b (l, false)) := Lib.hid (ho.step k0 (fun k e => e.elim) (fun k e => .inr (by omega)))
  have HBL := Lib.hid ho.nb.2.2
  obtain ⟨kind, hkd⟩ : ∃ kind, kind = rcKind l := ⟨_, rfl⟩
  have hk8 : kind < 256 := by rw [hkd]; exact num1_lt _
  have hwk : IntKind.u8.wrap (kind : Int) = (kind : Int) := IntWalk.u8_in _ (by omega)
  have HKD := Lib.hid hkd
  clear hW b2 k0 ho hkd
  go_enter Try.func14, Try.ntmps14
  go_upto_region 1 with fail
  rw [zero_ck]
  rw [← HW.out]
  go_wp2_with fail
  have hc := take_i O0.out (fun k e => by have := B2.out.lt; omega) (Nat.zero_le _) 1 rfl
  rw [show numN (gv 1 (l, false)).1 = kind from HKD.out.symm] at hc
  refine hc.mono ?_
  clear hc
  rintro e w1 ⟨rfl, ho, hk⟩
  have O1 : Hid (Oi 0 (fun q => q = w.heap.size) w1 b (rcS l)) := Lib.hid ho
  have B21 := Lib.hid (B2.out.kp hk (fun e => by have := HBL.out; omega))
  have K1 : Hid (Kp (fun k => k = b) w w1) := Lib.hid ((K0.out.mono fun _ _ e => e.elim).trans hk)
  clear ho hk
  go_upto_region 2 with (first | (refine wpList_new rfl rfl 25 rfl (.tmp 3) (.tmp 7) rfl zCk [.int .u8 kind, .string ⟨#[]⟩, .slice none 0 0] rfl (fun _ => rfl) (fun _ => rfl) (ccs_one ⟨kind, ⟨#[]⟩, []⟩ none 0) ?_; intro w3 g hg3 hb3 hk3; have HK3 := Lib.hid hk3; have HG3 := Lib.hid hg3; have HB3 := Lib.hid hb3; clear hk3 hg3 hb3) | fail)
  clear hwk
  have U3 : Hid (Cu w w3 b g kind ⟨#[]⟩ (.slice none 0 0) [] (rcS l)) := Lib.hid ⟨Cg.new _ _ (by decide) HB3.out (by have := HG3.out; have := B21.out.lt; omega), O1.out.step HK3.out (fun k e => e.elim) (fun k e => by
    rcases e with e | e
    · exact .inl e
    · have := cx_nil e
      exact .inr (by have := HG3.out; omega)), B21.out.kp HK3.out (fun e => e), K1.out.trans (HK3.out.mono fun _ _ e => e.elim), HBL.out⟩
  have HGW : Hid (w.heap.size < g) := Lib.hid (by have := HG3.out; have := B21.out.lt; omega)
  clear HK3 HG3 O1 B21 B2 O0
  go_wp2_with (first | (refine wpList_load_mid rfl 25 (.tmp 3) rfl g 0 rfl [.int .u8 kind, .string ⟨#[]⟩, .slice none 0 0] _ HB3.out.range' Try.underlying25 rfl (by kernel_rfl) ?_) | fail)
  refine (leads_any ⟨kind, ⟨#[]⟩, []⟩ none 0 _).mono ?_
  rintro e w4 ⟨rfl, k4⟩
  have U4 := Lib.hid (U3.out.still k4)
  have B4 := Lib.hid (HB3.out.kp k4 (fun e => e))
  clear k4
  dsimp only
  rcases hld : ldB kind with _ | _
  · have HLD := Lib.hid hld
    clear hld
    go_wp2_with fail
    refine (left_i U4.out.o).mono ?_
    rintro e w5 ⟨rfl, rfl⟩
    go_wp2_with fail
    refine (text_i U4.out.o U4.out.xlt (Nat.zero_le _) _).mono ?_
    rintro e w6 ⟨rfl, ho, hk⟩
    have U6 := Lib.hid (U4.out.call hk ho)
    clear ho hk
    obtain ⟨d, hd⟩ : ∃ d : ByteArray, d = ⟨(gv (rcS l).1.length (rcS l)).1.toArray⟩ := ⟨_, rfl⟩
    rw [← hd]
    have HD := Lib.hid hd
    clear hd
    have y1 : w6.cell? ⟨g, 1, none⟩ = some (.string ⟨#[]⟩) := U6.out.c.box.cell 1
    have yf : w6.frozen? ⟨g, 1, none⟩ = false := U6.out.c.box.free 1
    go_upto_region 4 with fail
    have HBX : Hid (Box (w6.setCell ⟨g, 1, none⟩ (.string d)) g 25 #[.int .u8 kind, .string d, .slice none 0 0]) := Lib.hid (by simpa using U6.out.c.box.put 1 (.string d))
    have HKX : Hid (Kp (fun k => k = g) w6 (w6.setCell ⟨g, 1, none⟩ (.string d))) := Lib.hid (Kp.one _ _ _ _)
    obtain ⟨w7, hw7⟩ : ∃ w7, w7 = w6.setCell ⟨g, 1, none⟩ (.string d) := ⟨_, rfl⟩
    rw [← hw7] at HBX HKX ⊢
    have R7 := Lib.hid (U6.out.r.kp HKX.out (by have := HGW.out; omega))
    have K7 : Hid (Kp (fun k => k = b) w w7) := Lib.hid (U6.out.kp.trans_new HKX.out (fun q e => .inl (by have := HGW.out; omega)))
    clear hw7 y1 yf
    go_wp2_with (first | (refine wpList_load_mid rfl 25 (.tmp 3) rfl g 0 rfl [.int .u8 kind, .string d, .slice none 0 0] _ HBX.out.range' Try.underlying25 rfl (by kernel_rfl) ?_) | (refine nstore_box rfl 25 (.tmp 2) (.tmp 16) rfl w.heap.size [.int .u8 kind, .string d, .slice none 0 0] rfl rfl R7.out rfl (by kernel_rfl) (ccs_one ⟨kind, d, []⟩ none 0) ?_; intro w8 hb8 hk8; have HB8 := Lib.hid hb8; have HK8 := Lib.hid hk8; clear hb8 hk8) | fail)
    have HRC : Hid (readC l = ⟨kind, d, []⟩) := Lib.hid (by
      unfold readC
      rw [← HKD.out, HLD.out, if_neg (by simp), HD.out])
    refine bodyPost_ret (v := .agg #[.int .u8 kind, .string d, .slice none 0 0]) ?_ rfl ?_
    · exact results_cell_row Hr.out _ _ w.heap.size 25 _ (0, 0) _ rfl HB8.out Try.underlying25 rfl (by kernel_rfl)
    · rw [ReadEnd, HRC.out]
      exact ⟨none, 0, rfl, ⟨.nil _ _, ⟨hk8, fun k hk => by cases hk⟩, by simp, by simp [maxLen]⟩, K7.out.trans_new HK8.out (fun q e => .inl (by omega))⟩
  · have HLD := Lib.hid hld
    clear hld
    obtain ⟨cnt, hcnt⟩ : ∃ cnt, cnt = rcN l := ⟨_, rfl⟩
    have hc8 : cnt < 256 := by rw [hcnt]; exact num1_lt _
    have HCNT := Lib.hid hcnt
    clear hcnt
    go_wp2_with fail
    have hc := take_i U4.out.o U4.out.xlt (Nat.zero_le _) 1 rfl
    rw [show numN (gv 1 (rcS l)).1 = cnt from HCNT.out.symm] at hc
    refine hc.mono ?_
    clear hc
    rintro e w5 ⟨rfl, ho, hk⟩
    have U5 : Hid (Cu w w5 b g kind ⟨#[]⟩ (.slice none 0 0) [] (rcS2 l)) := Lib.hid (U4.out.call hk ho)
    clear ho hk
    go_wp2_with fail
    go_loopw [19] (fun s19 wr => ∃ k : Nat, ∃ vs : Value, k ≤ cnt ∧ s19 = .int .u64 k ∧ Cu w wr b g kind ⟨#[]⟩ vs (rdKs kind k (rcS2 l)).1 (rdKs kind k (rcS2 l)).2) (fun s19 _ => cnt - (Go.RowKit.intOf s19).toNat)
    case atStart => exact ⟨0, .slice none 0 0, Nat.zero_le _, rfl, U5.out⟩
    case round =>
      obtain ⟨k, vs, hk, rfl, hu⟩ := hrel
      have UR := Lib.hid hu
      clear hu
      by_cases hlt : k < cnt
      · obtain ⟨ks, hks⟩ : ∃ ks, ks = (rdKs kind k (rcS2 l)).1 := ⟨_, rfl⟩
        obtain ⟨st, hst⟩ : ∃ st, st = (rdKs kind k (rcS2 l)).2 := ⟨_, rfl⟩
        have hkl : ks.length = k := by rw [hks]; exact rdKs_len _ _ _
        rw [← hks, ← hst] at UR
        have HKS := Lib.hid hks
        have HST := Lib.hid hst
        have HKL := Lib.hid hkl
        clear hks hst hkl
        obtain ⟨x, hx⟩ : ∃ x, x = (rdKd' kind st).1 := ⟨_, rfl⟩
        have hxok : x.Ok := by rw [hx]; exact rdKd_ok _ _
        have XO := Lib.hid hxok
        have HX := Lib.hid hx
        have HCALL : Hid (∀ v, Cu w v b g kind ⟨#[]⟩ vs ks st → Calls Try.prog 34 #[.pointer (some ⟨b, 0, none⟩), .int .u8 kind] v fun e w' => e = .returned (.agg (kcs x).toArray) ∧ Cu w w' b g kind ⟨#[]⟩ vs ks (rdKd' kind st).2) := Lib.hid fun v hv => by
          have hc := readKid_any hv.o hv.xlt (Nat.zero_le _) kind
          rw [← hx] at hc
          exact hc.mono fun e w' ⟨a, c, d⟩ => ⟨a, hv.call d c⟩
        clear hx hxok
        go_upto_region 7 with fail
        have U1 := Lib.hid (UR.out.still (Kp.refl _ wr).drew)
        refine wp_region_held_drew (S := fun v => v.cell? ⟨g, 0, none⟩ = some (.int .u8 kind)) (by kernel_rfl) ((U1.out.c.box.cell 0)) (fun hHeld => ?_)
        refine tk 0 (h := ?_)
        refine tk 2 (h := ?_)
        refine tk 3 (h := ?_)
        refine tk 4 (h := ?_)
        refine wpAnyH_ready (rs := [1, 5]) (by kernel_rfl) (by simp) ?_
        refine rdc 1 (h := fun K hK => ?_) (hs := rdc 5 (h := fun K hK => ?_) (hs := AllReadyH.nil))
        · have y : World.cell? _ ⟨g, 2, none⟩ = some vs := U1.out.c.box.cell 2
          go_simp
          clear y
          refine hK.out _ _ ((U1.out.c.box.cell 0)) (fun hHeld13 => ?_)
          clear hK K
          try simp only [Act.put, List.setIfInBounds_toArray, List.set_cons_zero, List.set_cons_succ]
          refine rd 5 (h := fun K hK => ?_)
          go_simp
          refine (HCALL.out _ U1.out).mono ?_
          rintro e w2 ⟨rfl, hu⟩
          have U2 := Lib.hid hu
          clear hu
          go_wp2_with fail
          refine hK.out _ _ ((U2.out.c.box.cell 0)) (fun hHeld1 => ?_)
          clear hK K
          try simp only [Act.put, List.setIfInBounds_toArray, List.set_cons_zero, List.set_cons_succ]
          refine rd 6 (h := fun K hK => ?_)
          rw [if_pos (by rfl)]
          refine wp_slice1 23 46 (.tmp 26) rfl Try.underlying23 zKid (by decide) (by decide) (kcs x) rfl (kcs_len XO.out) ?_
          intro w3 gn hgn hbn hkn hsn
          have HBN := Lib.hid hbn
          have U3 := Lib.hid (U2.out.still hkn)
          clear hgn hbn hkn hsn
          refine hK.out _ _ ((U3.out.c.box.cell 0)) (fun hHeld2 => ?_)
          clear hK K
          try simp only [Act.put, List.setIfInBounds_toArray, List.set_cons_zero, List.set_cons_succ]
          refine rd 7 (h := fun K hK => ?_)
          rw [if_pos (by rfl)]
          refine wp_append_at (.tmp 22) (.tmp 27) 23 rfl 0 46 iK zK 36 56 Try.underlying23 i1 i2 i3 i4 i5 (by decide) vs _ (kss ks) rfl U3.out.c.row ⟨gn, 0, none⟩ 1 1 (kcs x) rfl (by rw [kcs_len XO.out]) (fun j u hu => World.news_of_block HBN.out j u (by simpa using hu)) (kcs_one x) (by have := HKL.out; unfold maxLen; omega) (by have := HKL.out; omega) (Nat.zero_le _) ?_
          intro v4 w4 hown hg hat
          obtain ⟨A4, c4, hv4⟩ := own_shapeN hown
          have HV4 := Lib.hid hv4
          have hap := U3.out.app x XO.out hown hg hat
          have HAP := Lib.hid hap
          have HBX := Lib.hid (U3.out.c.box.kp (grown_kp hg) U3.out.c.bg)
          clear hown hg hat hap hv4
          refine hK.out _ _ ((HBX.out.cell 0)) (fun hHeld3 => ?_)
          clear hK K
          try simp only [Act.put, List.setIfInBounds_toArray, List.set_cons_zero, List.set_cons_succ]
          refine tk 8 (h := ?_)
          refine rd 9 (h := fun K hK => ?_)
          have y : World.cell? w4 ⟨g, 2, none⟩ = some vs := HBX.out.cell 2
          have yf : World.frozen? w4 ⟨g, 2, none⟩ = false := HBX.out.free 2
          rw [HV4.out]
          go_simp
          rw [← HV4.out]
          clear y yf
          refine hK.out _ _ ((HAP.out.c.box.cell 0)) (fun hHeld4 => ?_)
          clear hK K
          try simp only [Act.put, List.setIfInBounds_toArray, List.set_cons_zero, List.set_cons_succ]
          refine wpAnyH_done (by kernel_rfl) ?_ _
          have U5 := HAP
          go_wp2_with fail
          go_roundw
          case rel => exact ⟨k + 1, v4, by omega, by go_num, by
            obtain ⟨e1, e2⟩ := rdKs_next kind k (rcS2 l)
            rw [e1, e2, ← HKS.out, ← HST.out, ← HX.out]
            exact U5.out⟩
          case measure => simp [Go.RowKit.intOf]; omega
        · go_simp
          refine (HCALL.out _ U1.out).mono ?_
          rintro e w2 ⟨rfl, hu⟩
          have U2 := Lib.hid hu
          clear hu
          go_wp2_with fail
          refine hK.out _ _ ((U2.out.c.box.cell 0)) (fun hHeld14 => ?_)
          clear hK K
          try simp only [Act.put, List.setIfInBounds_toArray, List.set_cons_zero, List.set_cons_succ]
          refine wpAnyH_ready (rs := [1, 6]) (by kernel_rfl) (by simp) ?_
          refine rdc 1 (h := fun K hK => ?_) (hs := rdc 6 (h := fun K hK => ?_) (hs := AllReadyH.nil))
          · have y : World.cell? _ ⟨g, 2, none⟩ = some vs := U2.out.c.box.cell 2
            go_simp
            clear y
            refine hK.out _ _ ((U2.out.c.box.cell 0)) (fun hHeld11 => ?_)
            clear hK K
            try simp only [Act.put, List.setIfInBounds_toArray, List.set_cons_zero, List.set_cons_succ]
            refine rd 6 (h := fun K hK => ?_)
            rw [if_pos (by rfl)]
            refine wp_slice1 23 46 (.tmp 26) rfl Try.underlying23 zKid (by decide) (by decide) (kcs x) rfl (kcs_len XO.out) ?_
            intro w3 gn hgn hbn hkn hsn
            have HBN := Lib.hid hbn
            have U3 := Lib.hid (U2.out.still hkn)
            clear hgn hbn hkn hsn
            refine hK.out _ _ ((U3.out.c.box.cell 0)) (fun hHeld5 => ?_)
            clear hK K
            try simp only [Act.put, List.setIfInBounds_toArray, List.set_cons_zero, List.set_cons_succ]
            refine rd 7 (h := fun K hK => ?_)
            rw [if_pos (by rfl)]
            refine wp_append_at (.tmp 22) (.tmp 27) 23 rfl 0 46 iK zK 36 56 Try.underlying23 i1 i2 i3 i4 i5 (by decide) vs _ (kss ks) rfl U3.out.c.row ⟨gn, 0, none⟩ 1 1 (kcs x) rfl (by rw [kcs_len XO.out]) (fun j u hu => World.news_of_block HBN.out j u (by simpa using hu)) (kcs_one x) (by have := HKL.out; unfold maxLen; omega) (by have := HKL.out; omega) (Nat.zero_le _) ?_
            intro v4 w4 hown hg hat
            obtain ⟨A4, c4, hv4⟩ := own_shapeN hown
            have HV4 := Lib.hid hv4
            have hap := U3.out.app x XO.out hown hg hat
            have HAP := Lib.hid hap
            have HBX := Lib.hid (U3.out.c.box.kp (grown_kp hg) U3.out.c.bg)
            clear hown hg hat hap hv4
            refine hK.out _ _ ((HBX.out.cell 0)) (fun hHeld6 => ?_)
            clear hK K
            try simp only [Act.put, List.setIfInBounds_toArray, List.set_cons_zero, List.set_cons_succ]
            refine tk 8 (h := ?_)
            refine rd 9 (h := fun K hK => ?_)
            have y : World.cell? w4 ⟨g, 2, none⟩ = some vs := HBX.out.cell 2
            have yf : World.frozen? w4 ⟨g, 2, none⟩ = false := HBX.out.free 2
            rw [HV4.out]
            go_simp
            rw [← HV4.out]
            clear y yf
            refine hK.out _ _ ((HAP.out.c.box.cell 0)) (fun hHeld7 => ?_)
            clear hK K
            try simp only [Act.put, List.setIfInBounds_toArray, List.set_cons_zero, List.set_cons_succ]
            refine wpAnyH_done (by kernel_rfl) ?_ _
            have U5 := HAP
            go_wp2_with fail
            go_roundw
            case rel => exact ⟨k + 1, v4, by omega, by go_num, by
              obtain ⟨e1, e2⟩ := rdKs_next kind k (rcS2 l)
              rw [e1, e2, ← HKS.out, ← HST.out, ← HX.out]
              exact U5.out⟩
            case measure => simp [Go.RowKit.intOf]; omega
          · rw [if_pos (by rfl)]
            refine wp_slice1 23 46 (.tmp 26) rfl Try.underlying23 zKid (by decide) (by decide) (kcs x) rfl (kcs_len XO.out) ?_
            intro w3 gn hgn hbn hkn hsn
            have HBN := Lib.hid hbn
            have U3 := Lib.hid (U2.out.still hkn)
            clear hgn hbn hkn hsn
            refine hK.out _ _ ((U3.out.c.box.cell 0)) (fun hHeld12 => ?_)
            clear hK K
            try simp only [Act.put, List.setIfInBounds_toArray, List.set_cons_zero, List.set_cons_succ]
            refine rd 1 (h := fun K hK => ?_)
            have y : World.cell? _ ⟨g, 2, none⟩ = some vs := U3.out.c.box.cell 2
            go_simp
            clear y
            refine hK.out _ _ ((U3.out.c.box.cell 0)) (fun hHeld8 => ?_)
            clear hK K
            try simp only [Act.put, List.setIfInBounds_toArray, List.set_cons_zero, List.set_cons_succ]
            refine rd 7 (h := fun K hK => ?_)
            rw [if_pos (by rfl)]
            refine wp_append_at (.tmp 22) (.tmp 27) 23 rfl 0 46 iK zK 36 56 Try.underlying23 i1 i2 i3 i4 i5 (by decide) vs _ (kss ks) rfl U3.out.c.row ⟨gn, 0, none⟩ 1 1 (kcs x) rfl (by rw [kcs_len XO.out]) (fun j u hu => World.news_of_block HBN.out j u (by simpa using hu)) (kcs_one x) (by have := HKL.out; unfold maxLen; omega) (by have := HKL.out; omega) (Nat.zero_le _) ?_
            intro v4 w4 hown hg hat
            obtain ⟨A4, c4, hv4⟩ := own_shapeN hown
            have HV4 := Lib.hid hv4
            have hap := U3.out.app x XO.out hown hg hat
            have HAP := Lib.hid hap
            have HBX := Lib.hid (U3.out.c.box.kp (grown_kp hg) U3.out.c.bg)
            clear hown hg hat hap hv4
            refine hK.out _ _ ((HBX.out.cell 0)) (fun hHeld9 => ?_)
            clear hK K
            try simp only [Act.put, List.setIfInBounds_toArray, List.set_cons_zero, List.set_cons_succ]
            refine tk 8 (h := ?_)
            refine rd 9 (h := fun K hK => ?_)
            have y : World.cell? w4 ⟨g, 2, none⟩ = some vs := HBX.out.cell 2
            have yf : World.frozen? w4 ⟨g, 2, none⟩ = false := HBX.out.free 2
            rw [HV4.out]
            go_simp
            rw [← HV4.out]
            clear y yf
            refine hK.out _ _ ((HAP.out.c.box.cell 0)) (fun hHeld10 => ?_)
            clear hK K
            try simp only [Act.put, List.setIfInBounds_toArray, List.set_cons_zero, List.set_cons_succ]
            refine wpAnyH_done (by kernel_rfl) ?_ _
            have U5 := HAP
            go_wp2_with fail
            go_roundw
            case rel => exact ⟨k + 1, v4, by omega, by go_num, by
              obtain ⟨e1, e2⟩ := rdKs_next kind k (rcS2 l)
              rw [e1, e2, ← HKS.out, ← HST.out, ← HX.out]
              exact U5.out⟩
            case measure => simp [Go.RowKit.intOf]; omega
      · obtain rfl : k = cnt := by omega
        obtain ⟨A, n, hcs, hck⟩ := UR.out.c.chunk hk8
        have HCK := Lib.hid hck
        have HBR : Hid (Box wr g 25 (ccs ⟨kind, ⟨#[]⟩, (rdKs kind k (rcS2 l)).1⟩ A n)) := Lib.hid (hcs ▸ UR.out.c.box)
        clear hcs hck
        have HRC : Hid (readC l = ⟨kind, ⟨#[]⟩, (rdKs kind k (rcS2 l)).1⟩) := Lib.hid (by
          unfold readC
          rw [← HKD.out, HLD.out, if_pos rfl, ← HCNT.out])
        rw [← HRC.out] at HCK HBR
        go_wp2_with (first | (refine wpList_load_mid rfl 25 (.tmp 3) rfl g 0 rfl (ccs (readC l) A n).toList _ HBR.out.range Try.underlying25 rfl (by kernel_rfl) ?_) | (refine nstore_box rfl 25 (.tmp 2) (.tmp 31) rfl w.heap.size (ccs (readC l) A n).toList rfl rfl UR.out.r rfl (by kernel_rfl) (ccs_one _ _ _) ?_; intro w8 hb8 hk8; have HB8 := Lib.hid hb8; have HK8 := Lib.hid hk8; clear hb8 hk8) | fail)
        refine bodyPost_ret (v := .agg (ccs (readC l) A n)) ?_ rfl ?_
        · exact results_cell_row Hr.out _ _ w.heap.size 25 _ (0, 0) _ rfl HB8.out Try.underlying25 rfl (by kernel_rfl)
        · exact ⟨A, n, rfl, ⟨HCK.out.k.far HK8.out UR.out.r (ccs_no _ _ _), HCK.out.ok, HCK.out.le, HCK.out.mx⟩, UR.out.kp.trans_new HK8.out (fun q e => .inl (by omega))⟩
end Go.Proofs.Ytoonihhjdmkflaa
