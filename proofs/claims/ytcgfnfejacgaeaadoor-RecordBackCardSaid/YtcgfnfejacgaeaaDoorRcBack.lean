/- RecordBack: records that are put are walked as they are, and a head tells whether bytes are those that were sealed. Condition: the table of half bytes reads as the program's text lays it. -/
import Derived.Test.YtcgfnfejacgaeaaDoorRcItem
import Derived.Test.YtcgfnfejacgaeaaDoorCrcWake
import Derived.OwnWalk
import Derived.Laws.ShiftsVarLaws
namespace Go.Proofs.YtcgfnfejacgaeaaDoor
open Go.RowKit

theorem store_byte (u : UInt8) (r : Nat) : bits .xor .u8 ((u.toNat : Nat) : Int) ((2 : Int) ^ r % 256) = (((u ^^^ UInt8.ofNat (2 ^ r)).toNat : Nat) : Int) := by
  have h := u8_xor_nat u.toNat (2 ^ r % 256) u.toNat_lt (Nat.mod_lt _ (by decide))
  rw [Int.natCast_emod, Int.natCast_pow] at h
  rw [UInt8.toNat_xor, UInt8.toNat_ofNat', ← h]
  rfl
theorem bcs_set (o : List UInt8) (j : Nat) (u : UInt8) : bcs (o.set j u) = (bcs o).set j (.int .u8 (u.toNat : Nat)) := by
  simp [bcs]
theorem xor_shift (x k T : Nat) : x * 2 ^ T ^^^ 2 ^ (k + T) = (x ^^^ 2 ^ k) * 2 ^ T := by
  have := Nat.shiftLeft_xor_distrib (a := x) (b := 2 ^ k) (i := T)
  simp only [Nat.shiftLeft_eq] at this
  rw [this, ← Nat.pow_add]
def BackEnd (w : World) (e : Ending) (w' : World) : Prop := e = .returned (.bool true) ∧ Kp (fun _ => False) w w'
/-- What stays while the law runs. -/
structure Bk (w v : World) (A B : Option Addr) (l : List Im) (bh : List UInt8) : Prop where
  it : RdI v A l
  bh : Rd v B bh
  tb : Tbl v
  kp : Kp (fun _ => False) w v
theorem Bk.still {w v v' : World} {A B : Option Addr} {l : List Im} {bh : List UInt8} (h : Bk w v A B l bh) (hk : Kp (fun _ => False) v v') : Bk w v' A B l bh := ⟨h.it.still hk, rd_still h.bh hk, h.tb.still hk, h.kp.trans hk⟩
set_option maxRecDepth 100000 in
set_option maxHeartbeats 16000000 in
theorem back_any (l : List Im) (A B : Option Addr) (m cA n2 cB box at_ ch : Nat) (bh : List UInt8) (w : World) (hl : l.length = m) (hI : RdI w A l) (hb : bh.length = n2) (hB : Rd w B bh) (hbox : box < 65536) (hat : at_ < 65536) (hch : ch < 4294967296) (ht : Tbl w) :
    Calls Tryd.prog 4 #[.slice A m cA, .slice B n2 cB, .int .u16 box, .int .u16 at_, .int .u32 ch] w (BackEnd w) := by
  have K0 : Hid (Bk w w A B l bh) := Lib.hid ⟨hI, hB, ht, Kp.refl _ _⟩
  have HL := Lib.hid hl
  have HBL := Lib.hid hb
  have HBOX := Lib.hid hbox
  have HAT := Lib.hid hat
  have HCH := Lib.hid hch
  clear hI hB ht hl hb hat hch
  go_enter Tryd.func4, Tryd.ntmps4
  by_cases h20 : (20 : Int) < m
  · go_wp2_with fail
    refine (wakes_true _ K0.out.tb).mono ?_
    rintro e wx ⟨rfl, kw⟩
    have KW := Lib.hid kw
    clear kw
    go_wp2_with fail
    go_ret
    exact ⟨rfl, K0.out.kp.trans KW.out⟩
  · by_cases h1k : (1000 : Int) < n2
    · go_wp2_with fail
      refine (wakes_true _ K0.out.tb).mono ?_
      rintro e wx ⟨rfl, kw⟩
      have KW := Lib.hid kw
      clear kw
      go_wp2_with fail
      go_ret
      exact ⟨rfl, K0.out.kp.trans KW.out⟩
    · go_wp2_with fail
      have hm20 : m ≤ 20 := by omega
      have hn1k : n2 ≤ 1000 := by omega
      clear h20 h1k
      go_loopw [11, 12, 13, 14] (fun s11 s12 _ _ wr => ∃ (k n1 c1 : Nat) (A1 : Option Addr), k ≤ m ∧ s12 = .int .i64 k ∧ s11 = .slice A1 n1 c1 ∧ n1 = (rcsL ((rsI l).take k)).length ∧ n1 ≤ k * 334 ∧ (∀ y ∈ l.take k, y.d.size ≤ 300) ∧ Ow w wr (.slice A1 n1 c1) (rcsL ((rsI l).take k))) (fun _ s12 _ _ _ => m - (Go.RowKit.intOf s12).toNat)
      case atStart => exact ⟨0, 0, 0, none, Nat.zero_le _, rfl, rfl, rfl, Nat.zero_le _, by simp, Ow.nil w⟩
      case round =>
        obtain ⟨k, n1, c1, A1, hk, rfl, rfl, hn1, hn1b, hds, how⟩ := hrel
        have HN1 := Lib.hid hn1
        have HDS := Lib.hid hds
        have HOW := Lib.hid how
        have KR := Lib.hid (K0.out.still how.kp)
        clear hn1 hds how
        by_cases hlt : k < m
        · obtain ⟨y, hy⟩ : ∃ y, l[k]? = some y := ⟨_, List.getElem?_eq_getElem (by rw [HL.out]; exact hlt)⟩
          obtain ⟨b, o, hAe, y0, y1⟩ := KR.out.it.at hy
          subst hAe
          have HY := Lib.hid hy
          obtain ⟨p, hp⟩ : ∃ p, o + k * 2 = p := ⟨_, rfl⟩
          rw [hp] at y0 y1
          clear hy
          by_cases h300 : (300 : Int) < y.d.size
          · go_wp2_with fail
            refine (wakes_true _ KR.out.tb).mono ?_
            rintro e wx ⟨rfl, kw⟩
            have KW := Lib.hid kw
            clear kw
            go_wp2_with fail
            go_ret
            exact ⟨rfl, KR.out.kp.trans KW.out⟩
          · go_upto_region 9 with fail
            have hd300 : y.d.size ≤ 300 := by omega
            obtain ⟨mm, hmm⟩ : ∃ mm, mm = 34 + y.d.size := ⟨_, rfl⟩
            have hmw : IntKind.i64.wrap (34 + (y.d.size : Int)) = (mm : Int) := by rw [IntWalk.i64_in _ (by omega)]; omega
            have HPUT : Hid (∀ v, Calls Tryd.prog 11 #[.agg (bcs (h1 y.x)).toArray, .string y.d] v fun e v' => ∃ Ap cp, e = .returned (.tuple #[.slice Ap mm cp, .int .i64 0]) ∧ Rd v' Ap (rcL y.rc) ∧ Kp (fun _ => False) v v') := Lib.hid fun v => (rput_any (h1 y.x) y.d v rfl (by omega)).mono fun e v' ⟨Ap, cp, h1, h2, h3, h4, h5, h6⟩ => ⟨Ap, cp, by rw [h1, hmm, byt_len], h4, h6⟩
            have HMM := Lib.hid hmm
            clear hmm
            refine wp_region_held_drew (S := fun v => v.cell? ⟨b, p, none⟩ = some (.int .u8 y.x.toNat) ∧ v.cell? ⟨b, p + 1, none⟩ = some (.string y.d)) (by kernel_rfl) (⟨y0, y1⟩) (fun hHeld => ?_)
            refine tk 0 (h := ?_)
            refine tk 1 (h := ?_)
            refine tk 2 (h := ?_)
            refine tk 3 (h := ?_)
            refine tk 4 (h := ?_)
            refine tk 5 (hy := fun v hv => exec_build 44 [(0, .tmp 54)] rfl (bcs (h1 y.x)).toArray (built_h1 y.x)) (h := ?_)
            refine tk 6 (h := ?_)
            refine tk 7 (h := ?_)
            refine tk 8 (h := ?_)
            refine tk 9 (h := ?_)
            refine tk 10 (h := ?_)
            refine rd 11 (h := fun K hK => ?_)
            go_simp
            refine (HPUT.out _).mono ?_
            rintro e w3 ⟨Ap, cp, rfl, hr, hk3⟩
            have R3 := Lib.hid hr
            have K3 := Lib.hid ((Kp.refl (fun _ => False) wr).drew.trans hk3)
            clear hr hk3
            go_wp2_with fail
            refine hK.out _ _ (⟨(K3.out.cell (p := ⟨b, p, none⟩) (World.block_lt_of_cell? wr ⟨b, p, none⟩ y0) (fun e => e)).trans y0, (K3.out.cell (p := ⟨b, p + 1, none⟩) (World.block_lt_of_cell? wr ⟨b, p + 1, none⟩ y1) (fun e => e)).trans y1⟩) (fun hHeld1 => ?_)
            clear hK K
            try simp only [Act.put, List.setIfInBounds_toArray, List.set_cons_zero, List.set_cons_succ]
            refine tk 12 (h := ?_)
            refine tk 13 (h := ?_)
            refine tk 14 (h := ?_)
            refine tk 15 (h := ?_)
            refine tk 16 (h := ?_)
            refine wpAnyH_done (by kernel_rfl) ?_ _
            have y3 : w3.cell? ⟨b, p + 1, none⟩ = some (.string y.d) := (K3.out.cell (p := ⟨b, p + 1, none⟩) (World.block_lt_of_cell? wr ⟨b, p + 1, none⟩ y1) (fun e => e)).trans y1
            go_upto_region 12 with fail
            clear hmw y0 y1
            go_wp2_with (first | (at_builtin; refine wpList_app rfl (.tmp 78) (.tmp 79) rfl (.slice A1 n1 c1) rfl (rcsL ((rsI l).take k)) (rcL y.rc) (HOW.out.still K3.out) Ap mm cp rfl (by rw [rc_len, HMM.out]) R3.out (n1 + mm) (by rw [HN1.out]) (by have := HMM.out; omega) ?_; intro A4 c4 w4 ho4 _ _ _; have O4 := Lib.hid ho4; clear ho4) | fail)
            go_roundw
            case rel => exact ⟨k + 1, n1 + mm, c4, A4, by omega, by go_num, rfl, by rw [rsI_next HY.out, List.length_append, rc_len, HN1.out, HMM.out], by have := HMM.out; omega, fun z hz => by
              rw [take_snoc l k (by rw [HL.out]; exact hlt)] at hz
              rcases List.mem_append.1 hz with hz | hz
              · exact HDS.out z hz
              · rw [List.mem_singleton] at hz
                have h2 := HY.out
                rw [List.getElem?_eq_getElem (by rw [HL.out]; exact hlt)] at h2
                rw [hz, Option.some.inj h2]
                exact hd300, by rw [rsI_next HY.out]; exact O4.out⟩
            case measure => simp [Go.RowKit.intOf]; omega
        · obtain ⟨wa, hwa⟩ : ∃ v, v = wr := ⟨_, rfl⟩
          subst hwa
          obtain rfl : k = m := by omega
          have hfull : (rsI l).take k = rsI l := List.take_of_length_le (by rw [rsI_len, HL.out]; exact Nat.le_refl _)
          rw [hfull] at HN1 HOW
          have hdall : ∀ y ∈ l, y.d.size ≤ 300 := fun y hy => HDS.out y (by rw [List.take_of_length_le (by rw [HL.out]; exact Nat.le_refl _)]; exact hy)
          have HOK : Hid (∀ r ∈ rsI l, r.Ok) := Lib.hid fun r hr => by
            obtain ⟨y, hy, rfl⟩ := List.mem_map.1 hr
            exact ⟨rfl, by have := hdall y hy; simp only [Im.rc, byt_len]; omega⟩
          have hn1c := HOW.out.len
          have HN1C := Lib.hid hn1c
          have HD3 := Lib.hid hdall
          clear hfull hdall hlt hk HDS hn1c
          have hn1m : n1 ≤ 6680 := by omega
          go_wp2_with (first | (at_builtin; refine wpList_app rfl (.const (.slice none 0 0)) (.tmp 82) rfl (.slice none 0 0) rfl [] (rcsL (rsI l)) (Ow.nil wa) A1 n1 c1 rfl HN1C.out.1 HOW.out.rd n1 (by simp) (by omega) ?_; intro A5 c5 w5 ho5 _ _ _; have O5 := Lib.hid ho5; clear ho5) | (at_builtin; refine wpList_app rfl (.tmp 83) (.tmp 84) rfl (.slice A5 n1 c5) rfl (rcsL (rsI l)) bh O5.out B n2 cB rfl HBL.out (rd_still KR.out.bh O5.out.kp) (n1 + n2) (by rw [HN1C.out.1]) (by omega) ?_; intro A6 c6 w6 ho6 h61 h62 _; have O6 := Lib.hid ho6; have H6 := Lib.hid (And.intro h61 h62); clear ho6 h61 h62) | fail)
          have hrd : Rd w6 A6 (rcsL (rsI l)) := by
            have := O6.out.rd.take n1
            rwa [List.take_left' HN1C.out.1] at this
          have HWK := Lib.hid (walk_any (rsI l) HOK.out A6 n1 (n1 + n2) c6 w6 HN1C.out.1 (by omega) H6.out.1 H6.out.2 (by omega) hrd)
          have KB6 := Lib.hid (KR.out.still O6.out.kp)
          have R6 := Lib.hid (rd_still HOW.out.rd O6.out.kp)
          clear hrd
          refine HWK.out.mono ?_
          rintro e w7 ⟨v7, rfl, hrow, hk7⟩
          obtain ⟨vA, vc, rfl, hsh⟩ := row_shape hrow HL.out
          have HSH := Lib.hid hsh
          have K7 := Lib.hid (KB6.out.still hk7)
          have R7 := Lib.hid (rd_still R6.out hk7)
          clear hrow hk7 hsh
          go_wp2_with fail
          go_loopw [17, 18] (fun s17 s18 wr => ∃ j pj : Nat, j ≤ k ∧ s18 = .int .i64 j ∧ s17 = .int .i64 pj ∧ pj = (rcsL ((rsI l).take j)).length ∧ pj ≤ j * 334 ∧ Kp (fun _ => False) w7 wr) (fun _ s18 _ => k - (Go.RowKit.intOf s18).toNat)
          case atStart => exact ⟨0, 0, Nat.zero_le _, rfl, rfl, rfl, Nat.zero_le _, Kp.refl _ _⟩
          case round =>
            obtain ⟨j, pj, hj, rfl, rfl, hpj, hpjb, hkp⟩ := hrel
            have HPJ := Lib.hid hpj
            have KP := Lib.hid hkp
            clear hpj hkp
            by_cases hlt : j < k
            · obtain ⟨y, hy⟩ : ∃ y, l[j]? = some y := ⟨_, List.getElem?_eq_getElem (by rw [HL.out]; exact hlt)⟩
              obtain ⟨b, o, hAe, y0, y1⟩ := (K7.out.still KP.out).it.at hy
              subst hAe
              obtain ⟨g, hge, hcl⟩ := HSH.out (by omega)
              subst hge
              have hyd : y.d.size ≤ 300 := by
                have := HOK.out y.rc (List.mem_map.2 ⟨y, List.mem_of_getElem? hy, rfl⟩)
                have h2 := HD3.out y (List.mem_of_getElem? hy)
                exact h2
              have HY := Lib.hid hy
              obtain ⟨p, hp⟩ : ∃ p, o + j * 2 = p := ⟨_, rfl⟩
              obtain ⟨q, hq⟩ : ∃ q, j * 34 = q := ⟨_, rfl⟩
              rw [hp] at y0 y1
              have HZ : Hid (∀ v, Kp (fun _ => False) wr v → v.cell? ⟨b, p, none⟩ = some (.int .u8 y.x.toNat) ∧ v.cell? ⟨b, p + 1, none⟩ = some (.string y.d)) := Lib.hid fun v hv => ⟨(hv.cell (p := ⟨b, p, none⟩) (World.block_lt_of_cell? wr ⟨b, p, none⟩ y0) (fun e => e)).trans y0, (hv.cell (p := ⟨b, p + 1, none⟩) (World.block_lt_of_cell? wr ⟨b, p + 1, none⟩ y1) (fun e => e)).trans y1⟩
              have HG : Hid (∀ v, Kp (fun _ => False) wr v → v.rangeAt g q (rcv pj (h1 y.x) y.d)) := Lib.hid fun v hv i u hu => by
                have h := hcl (j * 34 + i) u (row_at hy i u (by rw [← HPJ.out]; exact hu))
                rw [hq] at h
                exact ((KP.out.trans hv).cell (p := ⟨g, q + i, none⟩) (World.block_lt_of_cell? w7 ⟨g, q + i, none⟩ h) (fun e => e)).trans h
              clear hy hcl y0 y1
              go_upto_region 20 with fail
              refine wp_region_quiet (C := fun v => Kp (fun _ => False) wr v) (by kernel_rfl) (by kernel_rfl) ((Kp.refl _ _).drew) (Wq.out ?_)
              refine qtk (h := ?_)
              refine qtk (h := ?_)
              refine qtk (h := ?_)
              refine qld g q (rcv pj (h1 y.x) y.d) (fun v hv => HG.out v hv) Tryd.underlying49 (hi := by rw [rcv_len rfl]; exact info_rec) (h := ?_)
              refine qtk (h := ?_)
              refine qtk (h := ?_)
              refine qtk (h := ?_)
              refine qtk (h := ?_)
              refine qtk (h := ?_)
              refine qtk (hy := fun v hv => by (obtain ⟨u0, u1⟩ := HZ.out v hv; unfold Oper.quietAt; go_simp; with_reducible rfl)) (h := ?_)
              refine qbuild 44 [(0, .tmp 115)] rfl (bcs (h1 y.x)).toArray (built_h1 y.x) (h := ?_)
              refine qtk (h := ?_)
              refine qtk (h := ?_)
              refine qtk (h := ?_)
              refine qtk (h := ?_)
              refine qtk (hy := fun v hv => by (obtain ⟨u0, u1⟩ := HZ.out v hv; unfold Oper.quietAt; go_simp; with_reducible rfl)) (h := ?_)
              refine qbuild 49 [(0, .tmp 110), (1, .tmp 116), (2, .tmp 121)] rfl (rcv pj (h1 y.x) y.d).toArray (built3 pj (h1 y.x) y.d rfl) (h := ?_)
              refine qcmp .neq 49 _ _ _ rfl (rcv pj (h1 y.x) y.d).toArray (rcv pj (h1 y.x) y.d).toArray (.bool false) rfl rfl (by kernel_rfl) (ne_rec pj (h1 y.x) y.d rfl) (h := ?_)
              refine Wq.mk (wpQuiet_nil ?_)
              intro wq hwq
              have KQ := Lib.hid hwq
              clear hwq
              obtain ⟨y0, y1⟩ := HZ.out wq KQ.out
              go_wp2_with fail
              go_roundw
              case rel => exact ⟨j + 1, pj + 34 + y.d.size, by omega, by go_num, by go_num, by rw [rsI_next HY.out, List.length_append, rc_len, HPJ.out]; omega, by omega, KP.out.trans KQ.out⟩
              case measure => simp [Go.RowKit.intOf]; omega
            · obtain ⟨wb, hwb⟩ : ∃ v, v = wr := ⟨_, rfl⟩
              subst hwb
              have hjk : j = k := by omega
              subst hjk
              have KB := Lib.hid (K7.out.still KP.out)
              have RB := Lib.hid (rd_still R7.out KP.out)
              clear hlt hj HPJ
              obtain ⟨L, hL⟩ : ∃ L, L = rcsL (rsI l) := ⟨_, rfl⟩
              have HLN : Hid (L.length = n1) := Lib.hid (by rw [hL]; exact HN1C.out.1)
              rw [← hL] at RB
              have HM1 : Hid (n1 ≤ c1 ∧ c1 ≤ maxLen) := Lib.hid HN1C.out.2
              clear hL
              have hwb2 : IntKind.i64.wrap (box : Int) = (box : Int) := IntWalk.i64_in _ (by omega)
              by_cases hbig : 2048 < n1
              · have hbi : (2048 : Int) < (n1 : Int) := by omega
                go_wp2_with fail
                refine (seal_no (box : Int) n1 c1 A1 wb (.inr (.inr hbig))).mono ?_
                rintro e wc ⟨rfl, rfl⟩
                go_wp2_with fail
                refine (wakes_true _ KB.out.tb).mono ?_
                rintro e wx ⟨rfl, kw⟩
                have KW := Lib.hid kw
                clear kw
                go_wp2_with fail
                go_ret
                exact ⟨rfl, KB.out.kp.trans KW.out⟩
              · have hn2k : n1 ≤ 2048 := by omega
                have hnb : ¬ (2048 : Int) < (n1 : Int) := by omega
                clear hbig hn1m hn1b
                have HSL := Lib.hid (seal_ok box n1 c1 A1 L wb HBOX.out HLN.out hn2k HM1.out.1 HM1.out.2 RB.out KB.out.tb)
                go_wp2_with fail
                refine HSL.out.mono ?_
                rintro e wc ⟨As, cs, rfl, _, _, hrs, _, hkc⟩
                obtain ⟨cr, hcr⟩ : ∃ cr, cr = crcN L := ⟨_, rfl⟩
                have hcrl : cr < 4294967296 := by rw [hcr]; exact crcN_lt _
                rw [← hcr] at hrs
                have HCRL := Lib.hid hcrl
                have HCR := Lib.hid hcr
                have RS := Lib.hid hrs
                have KC := Lib.hid (KB.out.still hkc)
                have RC := Lib.hid (rd_still RB.out hkc)
                clear hrs hkc hcr hcrl
                go_wp2_with fail
                refine (rtake_any As 512 cs (secR ⟨box, n1, cr⟩) wc (secR_len _) RS.out (by rw [secR_len]; decide) KC.out.tb).mono ?_
                rintro e wd ⟨he, hk⟩
                rw [take_sec ⟨HBOX.out, by show n1 < 65536; omega, HCRL.out⟩ (by show n1 ≤ 2048; omega)] at he
                obtain rfl : e = .returned (.tuple #[.agg (hcs ⟨box, n1, cr⟩).toArray, .int .i64 0]) := he
                have KD := Lib.hid (KC.out.still hk)
                have RD := Lib.hid (rd_still RC.out hk)
                clear hk
                go_upto_region 27 with (first | (refine wpList_new rfl rfl 32 rfl (.tmp 21) (.tmp 151) rfl zHead (hcs ⟨box, n1, cr⟩) rfl (fun _ => rfl) (fun _ => rfl) (hcs_one _) ?_; intro we ga hga hba hka; have HBA := Lib.hid hba; have KA := Lib.hid hka; clear hga hba hka) | fail)
                have KE := Lib.hid (KD.out.still KA.out)
                have RE := Lib.hid (rd_still RD.out KA.out)
                have HZA : Hid (∀ v, Kp (fun _ => False) we v → v.cell? ⟨ga, 0, none⟩ = some (.int .i64 box) ∧ v.cell? ⟨ga, 1, none⟩ = some (.int .i64 n1) ∧ v.cell? ⟨ga, 2, none⟩ = some (.int .u32 cr)) := Lib.hid fun v hv => ⟨(HBA.out.kp hv (fun e => e)).cell 0, (HBA.out.kp hv (fun e => e)).cell 1, (HBA.out.kp hv (fun e => e)).cell 2⟩
                have HSUM : Hid (∀ v, Kp (fun _ => False) we v → Calls Tryd.prog 13 #[.slice A1 n1 c1] v fun e v' => e = .returned (.int .u32 (cr : Int)) ∧ v = v') := Lib.hid fun v hv => by
                  rw [HCR.out]
                  exact sum_n A1 L n1 c1 v HLN.out HM1.out.1 HM1.out.2 (rd_still RE.out hv) (KE.out.still hv).tb
                refine wp_region_quiet (C := fun v => Kp (fun _ => False) we v) (by kernel_rfl) (by kernel_rfl) ((Kp.refl _ _).drew) (Wq.out ?_)
                refine qtk (h := ?_)
                refine qtk (h := ?_)
                refine qtk (h := ?_)
                refine qtk (h := ?_)
                refine qtk (h := ?_)
                refine qtk (h := ?_)
                refine qtk (h := ?_)
                refine qtk (h := ?_)
                refine qtk (hy := fun v hv => by (obtain ⟨u0, u1, u2⟩ := HZA.out v hv; unfold Oper.quietAt; go_simp; with_reducible rfl)) (h := ?_)
                refine qtk (h := ?_)
                refine qtk (h := ?_)
                refine qtk (h := ?_)
                refine qtk (h := ?_)
                refine qtk (h := ?_)
                refine qtk (h := ?_)
                refine qtk (hy := fun v hv => by (obtain ⟨u0, u1, u2⟩ := HZA.out v hv; unfold Oper.quietAt; go_simp; with_reducible rfl)) (h := ?_)
                refine qtk (h := ?_)
                refine qtk (h := ?_)
                refine qtk (h := ?_)
                refine qtk (h := ?_)
                refine qtk (h := ?_)
                refine qtk (h := ?_)
                refine qtk (hy := fun v hv => by (obtain ⟨u0, u1, u2⟩ := HZA.out v hv; unfold Oper.quietAt; go_simp; with_reducible rfl)) (h := ?_)
                refine qtk (h := ?_)
                refine qtk (hy := fun v hv => by (unfold Oper.quietAt; go_simp; exact (HSUM.out v hv).mono (fun e w1 h => ⟨h.1, h.2 ▸ hv⟩))) (h := ?_)
                refine qtk (h := ?_)
                refine qtk (h := ?_)
                refine Wq.mk (wpQuiet_nil ?_)
                intro wq hwq
                have KQ := Lib.hid hwq
                clear hwq
                have KBq := Lib.hid (KE.out.still KQ.out)
                have RQ := Lib.hid (rd_still RE.out KQ.out)
                clear hwb2 hnb HSL
                go_wp2_with (first | (at_builtin; refine wpList_app rfl (.const (.slice none 0 0)) (.tmp 180) rfl (.slice none 0 0) rfl [] L (Ow.nil wq) A1 n1 c1 rfl HLN.out RQ.out n1 (by simp) (by omega) ?_; intro A3 c3 wo ho3 _ _ _; have O3 := Lib.hid ho3; clear ho3) | fail)
                obtain ⟨T, hT⟩ : ∃ T, T = at_ % (8 * n1) := ⟨_, rfl⟩
                have HT := Lib.hid hT
                have hwat : IntKind.i64.wrap (at_ : Int) = (at_ : Int) := IntWalk.i64_in _ (by have := HAT.out; omega)
                clear hT
                go_loopw [24, 25] (fun s24 _ wr => ∃ (i : Nat) (o : List UInt8) (x : Nat), i ≤ 32 ∧ s24 = .int .i64 i ∧ o.length = n1 ∧ x < 2 ^ i ∧ leN o = leN L ^^^ x * 2 ^ T ∧ Ow wq wr (.slice A3 n1 c3) o) (fun s24 _ _ => 32 - (Go.RowKit.intOf s24).toNat)
                case atStart => exact ⟨0, L, 0, by omega, rfl, HLN.out, by omega, by simp, O3.out⟩
                case round =>
                  obtain ⟨i, o, x, hi, rfl, hol, hx, hle, how⟩ := hrel
                  have Hol := Lib.hid hol
                  have Hx := Lib.hid hx
                  have Hle := Lib.hid hle
                  have HOW2 := Lib.hid how
                  clear hol hx hle how
                  by_cases hgo : i < 32 ∧ 0 < n1
                  · obtain ⟨hi32, hlen⟩ := hgo
                    have hrow : wr.ownsRow 0 5 1 (.slice A3 n1 c3) n1 (bcs o) := by
                      have := HOW2.out.own
                      rwa [Hol.out] at this
                    obtain ⟨g, cc, hv3, _, _, _⟩ := own_at hrow hlen
                    injection hv3 with hA3 _ hc3
                    subst hA3
                    subst hc3
                    have HROW := Lib.hid hrow
                    have HGN := Lib.hid (HOW2.out.new g rfl)
                    clear hrow
                    have hTm : (at_ : Int) % (8 * (n1 : Int)) = (T : Int) := by rw [HT.out, Int.natCast_emod]; rfl
                    have hTlt : T < 8 * n1 := by rw [HT.out]; exact Nat.mod_lt _ (by omega)
                    obtain ⟨K, hK⟩ : ∃ K, T + i = K := ⟨_, rfl⟩
                    have hsum : (T : Int) + (i : Int) = (K : Int) := by omega
                    have hKlt : K < 24032 := by omega
                    have HK := Lib.hid hK
                    clear hK
                    by_cases hb : K < 8 * n1
                    · by_cases hbit : ch / 2 ^ i % 2 = 1
                      · have hand : bits .and .u32 ((ch : Int) / 2 ^ i) 1 = 1 := by
                          have := u32_and_nat (ch / 2 ^ i) 1 (Nat.lt_of_le_of_lt (Nat.div_le_self _ _) HCH.out) (by decide)
                          rw [Nat.and_one_is_mod, hbit, Int.natCast_ediv, Int.natCast_pow] at this
                          exact this
                        have hKo : K / 8 < o.length := by rw [Hol.out]; omega
                        have hcell : wr.cell? ⟨g, K / 8, none⟩ = some (.int .u8 (o[K / 8]).toNat) := by
                          rw [HROW.out.cellAt _ (by omega), bcs_get, List.getElem?_eq_getElem hKo]; rfl
                        have hfrz : wr.frozen? ⟨g, K / 8, none⟩ = false := HROW.out.frozenAt _
                        have hset := leN_set o (K / 8) (K % 8) hKo (Nat.mod_lt _ (by omega))
                        have Hset := Lib.hid hset
                        generalize hou : o[K / 8] = u at *
                        have hu := u.toNat_lt
                        clear hou hset hKo
                        go_wp2_with fail
                        go_region
                        rw [store_byte u (K % 8)]
                        have hst := HROW.out.stored (K / 8) (.int .u8 ((u ^^^ UInt8.ofNat (2 ^ (K % 8))).toNat : Nat))
                        have hrow' : ((wr.setCell ⟨g, K / 8, none⟩ (.int .u8 ((u ^^^ UInt8.ofNat (2 ^ (K % 8))).toNat : Nat))).drew).ownsRow 0 5 1 (Value.slice (some ⟨g, 0, none⟩) n1 c3) n1 (bcs (o.set (K / 8) (u ^^^ UInt8.ofNat (2 ^ (K % 8))))) := by
                          rw [bcs_set]
                          exact hst.1
                        have hk' : Kp (fun _ => False) wq ((wr.setCell ⟨g, K / 8, none⟩ (.int .u8 ((u ^^^ UInt8.ofNat (2 ^ (K % 8))).toNat : Nat))).drew) := (HOW2.out.kp.grown hst.2 (fun q hq => .inl (by cases hq; exact HGN.out))).drew
                        have Hrow' := Lib.hid hrow'
                        have Hk' := Lib.hid hk'
                        generalize (wr.setCell ⟨g, K / 8, none⟩ (.int .u8 ((u ^^^ UInt8.ofNat (2 ^ (K % 8))).toNat : Nat))).drew = wk at *
                        clear hst hrow' hk' hcell hfrz
                        go_wp2_with fail
                        go_roundw
                        case rel =>
                          refine ⟨i + 1, o.set (K / 8) (u ^^^ UInt8.ofNat (2 ^ (K % 8))), x ^^^ 2 ^ i, by omega, by go_num, by rw [List.length_set, Hol.out], Nat.xor_lt_two_pow (Nat.lt_trans Hx.out (Nat.pow_lt_pow_right (by omega) (by omega))) (Nat.pow_lt_pow_right (by omega) (by omega)), ?_, ⟨by rw [List.length_set, Hol.out]; exact Hrow'.out, fun k e => by cases e; exact HGN.out, Hk'.out⟩⟩
                          rw [Hset.out, Hle.out, Nat.xor_assoc]
                          congr 1
                          rw [show 8 * (K / 8) + K % 8 = i + T by have := HK.out; omega]
                          exact xor_shift x i T
                        case measure => simp [Go.RowKit.intOf]; omega
                      · have hand : bits .and .u32 ((ch : Int) / 2 ^ i) 1 = 0 := by
                          have := u32_and_nat (ch / 2 ^ i) 1 (Nat.lt_of_le_of_lt (Nat.div_le_self _ _) HCH.out) (by decide)
                          have e0 : ch / 2 ^ i % 2 = 0 := by omega
                          rw [Nat.and_one_is_mod, e0, Int.natCast_ediv, Int.natCast_pow] at this
                          exact this
                        go_wp2_with fail
                        go_roundw
                        case rel => exact ⟨i + 1, o, x, by omega, by go_num, Hol.out, Nat.lt_trans Hx.out (Nat.pow_lt_pow_right (by omega) (by omega)), Hle.out, HOW2.out⟩
                        case measure => simp [Go.RowKit.intOf]; omega
                    · have hbi : decide ((K : Int) < 8 * (n1 : Int)) = false := by simp; omega
                      go_wp2_with fail
                      go_roundw
                      case rel => exact ⟨i + 1, o, x, by omega, by go_num, Hol.out, Nat.lt_trans Hx.out (Nat.pow_lt_pow_right (by omega) (by omega)), Hle.out, HOW2.out⟩
                      case measure => simp [Go.RowKit.intOf]; omega
                  · have hsame : crcN o = cr ↔ o = L := by
                      rw [HCR.out]
                      by_cases hz : n1 = 0
                      · have e1 : o = [] := List.eq_nil_of_length_eq_zero (by rw [Hol.out, hz])
                        have e2 : L = [] := List.eq_nil_of_length_eq_zero (by rw [HLN.out, hz])
                        simp [e1, e2]
                      · obtain rfl : i = 32 := by omega
                        exact crc_tells o L T x (by rw [Hol.out, HLN.out]) (by rw [HT.out, HLN.out]; exact Nat.le_of_lt (Nat.mod_lt _ (by omega))) Hx.out Hle.out
                    obtain ⟨eqb, heqb⟩ : ∃ b, b = decide (crcN o = cr) := ⟨_, rfl⟩
                    have hiff : ((⟨o.toArray⟩ : ByteArray).toList == (⟨L.toArray⟩ : ByteArray).toList) = eqb := by
                      rw [ByteArray.toList_eq, ByteArray.toList_eq, heqb, Bool.eq_iff_iff]
                      simp only [decide_eq_true_eq, beq_iff_eq]
                      exact hsame.symm
                    have HKW := Lib.hid HOW2.out.kp
                    have HCC := HOW2.out.len
                    have HOKC : Hid (∀ v, Kp (fun _ => False) wr v → Calls Tryd.prog 14 #[.slice A3 n1 c3, .int .u32 cr] v fun e v' => e = .returned (.bool eqb) ∧ v = v') := Lib.hid fun v hv => by
                      have := ok_any A3 o c3 cr v (by rw [Hol.out]; exact HCC.2.1) HCC.2.2 (rd_still HOW2.out.rd hv) ((KBq.out.still HKW.out).still hv).tb
                      rw [Hol.out, ← heqb] at this
                      exact this
                    have HTO : Hid (∀ v, Kp (fun _ => False) wr v → (convert 23 9 (.slice A3 n1 c3)).run Tryd.prog v = .ok (.string ⟨o.toArray⟩) v) := Lib.hid fun v hv => by
                      have := (rd_still HOW2.out.rd hv).text (P := Tryd.prog) 23 9 5 c3 Tryd.underlying23 Tryd.underlying5 Tryd.underlying9
                      rwa [Hol.out] at this
                    have HTL : Hid (∀ v, Kp (fun _ => False) wr v → (convert 23 9 (.slice A1 n1 c1)).run Tryd.prog v = .ok (.string ⟨L.toArray⟩) v) := Lib.hid fun v hv => by
                      have := (rd_still RQ.out (HKW.out.trans hv)).text (P := Tryd.prog) 23 9 5 c1 Tryd.underlying23 Tryd.underlying5 Tryd.underlying9
                      rwa [HLN.out] at this
                    have HC2 : Hid (∀ v, Kp (fun _ => False) wr v → v.cell? ⟨ga, 2, none⟩ = some (.int .u32 cr)) := Lib.hid fun v hv => (HZA.out v ((KQ.out.trans HKW.out).trans hv)).2.2
                    have HWKS : Hid (∀ v, Kp (fun _ => False) wr v → Calls Tryd.prog 5 #[] v fun e v' => e = .returned (.bool true) ∧ Kp (fun _ => False) v v') := Lib.hid fun v hv => wakes_true v ((KBq.out.still HKW.out).still hv).tb
                    generalize (⟨o.toArray⟩ : ByteArray) = so at *
                    generalize (⟨L.toArray⟩ : ByteArray) = sl at *
                    have h32 : ¬ (i < 32) ∨ (i < 32 ∧ decide (0 < (n1 : Int)) = false) := by
                      rcases Nat.lt_or_ge i 32 with h | h
                      · exact .inr ⟨h, by simp; omega⟩
                      · exact .inl (by omega)
                    clear hgo hsame heqb HCC
                    rcases h32 with h32 | ⟨h32, hbz⟩
                    · go_upto_region 36 with fail
                      refine wp_region_quiet (C := fun v => Kp (fun _ => False) wr v) (by kernel_rfl) (by kernel_rfl) ((Kp.refl _ _).drew) (Wq.out ?_)
                      refine qtk (h := ?_)
                      refine qtk (h := ?_)
                      refine qtk (hy := fun v hv => by (have u2 := HC2.out v hv; unfold Oper.quietAt; go_simp; with_reducible rfl)) (h := ?_)
                      refine qtk (hy := fun v hv => by (unfold Oper.quietAt; go_simp; exact (HOKC.out v hv).mono (fun e w1 h => ⟨h.1, h.2 ▸ hv⟩))) (h := ?_)
                      refine qtk (h := ?_)
                      refine qtk (hy := fun v hv => by (have hto := HTO.out v hv; unfold Oper.quietAt; go_simp; with_reducible rfl)) (h := ?_)
                      refine qtk (h := ?_)
                      refine qtk (hy := fun v hv => by (have htl := HTL.out v hv; unfold Oper.quietAt; go_simp; with_reducible rfl)) (h := ?_)
                      refine qtk (h := ?_)
                      refine qtk (h := ?_)
                      refine qtk (h := ?_)
                      refine qtk (hy := fun v hv => by (unfold Oper.quietAt; go_simp; exact (HWKS.out v hv).mono (fun e w1 h => ⟨h.1, hv.trans h.2⟩))) (h := ?_)
                      refine qtk (h := ?_)
                      refine qtk (h := ?_)
                      refine Wq.mk (wpQuiet_nil ?_)
                      intro wz hwz
                      have KZ := Lib.hid hwz
                      clear hwz
                      go_wp2_with fail
                      go_ret
                      exact ⟨rfl, (KBq.out.kp.trans HKW.out).trans KZ.out⟩
                    · have hbz2 : decide (0 < n1) = false := by simpa using hbz
                      go_upto_region 36 with fail
                      clear hbz h32 hbz2
                      refine wp_region_quiet (C := fun v => Kp (fun _ => False) wr v) (by kernel_rfl) (by kernel_rfl) ((Kp.refl _ _).drew) (Wq.out ?_)
                      refine qtk (h := ?_)
                      refine qtk (h := ?_)
                      refine qtk (hy := fun v hv => by (have u2 := HC2.out v hv; unfold Oper.quietAt; go_simp; with_reducible rfl)) (h := ?_)
                      refine qtk (hy := fun v hv => by (unfold Oper.quietAt; go_simp; exact (HOKC.out v hv).mono (fun e w1 h => ⟨h.1, h.2 ▸ hv⟩))) (h := ?_)
                      refine qtk (h := ?_)
                      refine qtk (hy := fun v hv => by (have hto := HTO.out v hv; unfold Oper.quietAt; go_simp; with_reducible rfl)) (h := ?_)
                      refine qtk (h := ?_)
                      refine qtk (hy := fun v hv => by (have htl := HTL.out v hv; unfold Oper.quietAt; go_simp; with_reducible rfl)) (h := ?_)
                      refine qtk (h := ?_)
                      refine qtk (h := ?_)
                      refine qtk (h := ?_)
                      refine qtk (hy := fun v hv => by (unfold Oper.quietAt; go_simp; exact (HWKS.out v hv).mono (fun e w1 h => ⟨h.1, hv.trans h.2⟩))) (h := ?_)
                      refine qtk (h := ?_)
                      refine qtk (h := ?_)
                      refine Wq.mk (wpQuiet_nil ?_)
                      intro wz hwz
                      have KZ := Lib.hid hwz
                      clear hwz
                      go_wp2_with fail
                      go_ret
                      exact ⟨rfl, (KBq.out.kp.trans HKW.out).trans KZ.out⟩
end Go.Proofs.YtcgfnfejacgaeaaDoor
