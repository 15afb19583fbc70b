/- What was flushed stays: the law's walk. No condition. -/
import Derived.Test.YtbdiebkfkmjjiaaDkLaw
import Derived.Deep.DeepCutAuto
import Derived.Deep.CutRange
import Derived.Deep.CutBlock
namespace Go.Proofs.Ytbdiebkfkmjjiaa
open Go.RowKit Go.Maps

theorem strInfo : ∃ i, Try.prog.info? 9 = some i ∧ i.zero = some (.string ⟨#[]⟩) ∧ i.size = 1 ∧ i.bytes = 16 := by
  have h : (Try.prog.info? 9).map (fun i => (i.zero, i.size, i.bytes)) = some (some (.string ⟨#[]⟩), 1, 16) := by kernel_rfl
  obtain ⟨i, h1, h2, h3, h4⟩ := info_parts h
  exact ⟨i, h1, h2, h3, h4⟩
theorem strsInfo : ∃ i, Try.prog.info? 29 = some i ∧ i.zero = some (.slice none 0 0) ∧ i.size = 1 ∧ i.bytes = 24 := by
  have h : (Try.prog.info? 29).map (fun i => (i.zero, i.size, i.bytes)) = some (some (.slice none 0 0), 1, 24) := by kernel_rfl
  obtain ⟨i, h1, h2, h3, h4⟩ := info_parts h
  exact ⟨i, h1, h2, h3, h4⟩
theorem make_strs (n : Nat) (h : n ≤ 30) (W : World) : (Instr.makeSlice 29 (.int .i64 n) (.int .i64 n)).run Try.prog W = .ok (.slice (some ⟨W.heap.size, 0, none⟩) n n) (W.alloc (.cells (strs (List.replicate n [])).toArray 9)) := by
  obtain ⟨i, i1, i2, i3, i4⟩ := strInfo
  have := run_make (P := Try.prog) W 29 _ i _ Try.underlying29 i1 i2 .i64 .i64 n n (by omega) (by omega) (by rw [i4]; omega) (by omega)
  have e : madeCells (Value.string ⟨#[]⟩).cells (((n : Int)).toNat * i.size) = (strs (List.replicate n [])).toArray := by
    rw [i3, Int.toNat_natCast, Nat.mul_one]
    have e1 := made_rep 1 n (by decide) (.string ⟨#[]⟩)
    have e2 : strs (List.replicate n []) = List.replicate n (.string ⟨#[]⟩) := by simp [strs]
    rw [e2]
    exact e1
  rw [e] at this
  simpa using this
theorem make_mays (n : Nat) (h : n ≤ 30) (W : World) : (Instr.makeSlice 55 (.int .i64 n) (.int .i64 n)).run Try.prog W = .ok (.slice (some ⟨W.heap.size, 0, none⟩) n n) (W.alloc (.cells (List.replicate n (Value.slice none 0 0)).toArray 29)) := by
  obtain ⟨i, i1, i2, i3, i4⟩ := strsInfo
  have := run_make (P := Try.prog) W 55 _ i _ Try.underlying55 i1 i2 .i64 .i64 n n (by omega) (by omega) (by rw [i4]; omega) (by omega)
  have e : madeCells (Value.slice none 0 0).cells (((n : Int)).toNat * i.size) = (List.replicate n (Value.slice none 0 0)).toArray := by
    rw [i3, Int.toNat_natCast, Nat.mul_one]
    exact made_rep 1 n (by decide) (.slice none 0 0)
  rw [e] at this
  simpa using this
theorem lw_made {B : Nat} {w : World} (hB : B ≤ w.heap.size) (n : Nat) (w2 : World) (hw : w2 = (w.alloc (.cells (List.replicate n (Value.slice none 0 0)).toArray 29)).alloc (.cells (strs (List.replicate n [])).toArray 9)) :
    Lw B w2 (w.heap.size + 1) w.heap.size (List.replicate n []) (List.replicate n []) := by
  subst hw
  have h1 := (Box.new w 29 (List.replicate n (Value.slice none 0 0)).toArray).alloc (.cells (strs (List.replicate n [])).toArray 9)
  have h2 := Box.new (w.alloc (.cells (List.replicate n (Value.slice none 0 0)).toArray 29)) 9 (strs (List.replicate n [])).toArray
  rw [World.size_alloc] at h2
  refine ⟨by omega, hB, h2, _, h1, by simp, fun k v l hv hl => ?_, fun i j v v' g hi _ hv _ => ?_⟩
  · have e1 := (List.mem_replicate.1 (List.mem_of_getElem? hv)).2
    have e2 := (List.mem_replicate.1 (List.mem_of_getElem? hl)).2
    subst e1; subst e2
    exact ⟨World.ownsRow_nil _ _ _ _, by simp [Value.ownBlock]⟩
  · have e1 := (List.mem_replicate.1 (List.mem_of_getElem? hi)).2
    subst e1
    simp [Value.ownBlock] at hv
/-- The rows while they are laid. -/
def now0 (n k : Nat) : List (List UInt8) := List.replicate k zsec ++ List.replicate (n - k) []
def may0 (n k : Nat) : List (List (List UInt8)) := List.replicate k [zsec] ++ List.replicate (n - k) []
theorem rep_set {α : Type} (n k : Nat) (x y : α) (h : k < n) : (List.replicate k x ++ List.replicate (n - k) y).set k x = List.replicate (k + 1) x ++ List.replicate (n - (k + 1)) y := by
  rw [List.set_append_right _ _ (by simp), List.length_replicate, Nat.sub_self]
  obtain ⟨m, hm⟩ : ∃ m, n - k = m + 1 := ⟨n - k - 1, by omega⟩
  rw [hm, show n - (k + 1) = m by omega, List.replicate_succ (n := m), List.replicate_succ' (n := k)]
  simp
theorem now0_set (n k : Nat) (h : k < n) : (now0 n k).set k zsec = now0 n (k + 1) := rep_set n k zsec [] h
theorem may0_set (n k : Nat) (h : k < n) : (may0 n k).set k [zsec] = may0 n (k + 1) := rep_set n k [zsec] [] h
theorem now0_length (n k : Nat) (h : k ≤ n) : (now0 n k).length = n := by simp [now0]; omega
theorem may0_length (n k : Nat) (h : k ≤ n) : (may0 n k).length = n := by simp [may0]; omega
theorem keeps_start (n : Nat) : KI (newDm n) (now0 n n) (may0 n n) ∧ KN (newDm n) (now0 n n) := by
  have hl : (newDm n).on.length = n := by simp [newDm]
  have hg : ∀ k, k < n → (newDm n).on.getD k [] = zsec := fun k hk => by simp [newDm, List.getD, hk]
  have hn : ∀ k, k < n → (now0 n n).getD k [] = zsec := fun k hk => by simp [now0, List.getD, hk]
  have hm : ∀ k, k < n → (may0 n n).getD k [] = [zsec] := fun k hk => by simp [may0, List.getD, hk]
  refine ⟨⟨by rw [hl, now0_length _ _ (Nat.le_refl _)], by rw [hl, may0_length _ _ (Nat.le_refl _)], fun k hk => ?_, fun x hx => by simp [newDm] at hx, fun _ => rfl⟩, fun k hk => ?_⟩
  · rw [hl] at hk
    rw [hg k hk, hm k hk]
    simp
  · rw [hl] at hk
    rw [hn k hk]
    exact hg k hk
theorem full_0 (w : World) : Calls Try.prog 25 #[.int .u8 0] w fun e w' => ∃ g, e = .returned (.slice (some ⟨g, 0, none⟩) 512 512) ∧ Box w' g 5 (bcs zsec).toArray ∧ w.heap.size ≤ g ∧ Kp (fun _ => False) w w' := full_any 0 w

set_option maxRecDepth 100000 in
set_option maxHeartbeats 16000000 in
theorem keeps_main (n : Nat) (h1 : 1 ≤ n) (h2 : n ≤ 30) (A : Option Addr) (l : List Ac) (c : Nat) (w : World) (h : Acs w w.heap.size A l) (hc : l.length ≤ c) (hm : c ≤ maxLen) (hg : greatA l = false) :
    Calls Try.prog 5 #[.int .u8 n, .slice A l.length c] w fun e w' => e = .returned (.bool true) ∧ Kp (fun k => w.heap.size ≤ k) w w' := by
  have hgr := great_any h c hc hm
  rw [hg] at hgr
  obtain ⟨hl80, hk40⟩ := not_great hg
  have H := Lib.hid h
  have HK := Lib.hid hk40
  have hm1 := make_strs n h2
  have hm2 := make_mays n h2
  clear h hg hk40 hm
  go_enter Try.func5, Try.ntmps5
  go_wp2_with fail
  refine hgr.mono ?_
  rintro e w' ⟨rfl, rfl⟩
  clear hgr
  go_wp2_with fail
  refine (new_any n h1 (by omega) w).mono ?_
  rintro e w1 ⟨b, rfl, d1, q1⟩
  have D1 := Lib.hid d1
  have Q1 := Lib.hid (q1.of_false (S := fun k => w.heap.size ≤ k))
  clear d1 q1
  go_wp2_with fail
  have kW : Kp (fun _ => False) w1 ((w1.alloc (.cells (Array.replicate n (Value.slice none 0 0)) 29)).alloc (.cells (strs (List.replicate n [])).toArray 9)) := ((Kp.refl _ w1).alloc _).alloc _
  have lW : Lw w.heap.size ((w1.alloc (.cells (Array.replicate n (Value.slice none 0 0)) 29)).alloc (.cells (strs (List.replicate n [])).toArray 9)) (w1.heap.size + 1) w1.heap.size (now0 n 0) (may0 n 0) := by
    have := lw_made Q1.out.size n _ (rfl : _ = (w1.alloc (.cells (List.replicate n (Value.slice none 0 0)).toArray 29)).alloc (.cells (strs (List.replicate n [])).toArray 9))
    simpa [now0, may0] using this
  generalize (w1.alloc (.cells (Array.replicate n (Value.slice none 0 0)) 29)).alloc (.cells (strs (List.replicate n [])).toArray 9) = W at *
  generalize w1.heap.size + 1 = gn at *
  generalize w1.heap.size = gy at *
  have LW := Lib.hid lW
  have D2 := Lib.hid (D1.out.still kW)
  have Q2 := Lib.hid (Q1.out.trans kW.of_false)
  clear lW kW hm1 hm2 D1 Q1
  go_loopw [10] (fun i wr => ∃ k : Nat, k ≤ n ∧ i = .int .i64 k ∧ Lw w.heap.size wr gn gy (now0 n k) (may0 n k) ∧ Dsk (fun k => w.heap.size ≤ k) wr b (newDm n) ∧ Kp (fun k => w.heap.size ≤ k) w wr)
    (fun i _ => n - (intOf i).toNat)
  case atStart => exact ⟨0, Nat.zero_le _, rfl, LW.out, D2.out, Q2.out⟩
  case round =>
    obtain ⟨k, hk, rfl, hlw, hdk, hkw⟩ := hrel
    have LW2 := Lib.hid hlw
    have D3 := Lib.hid hdk
    have Q3 := Lib.hid hkw
    clear hlw hdk hkw
    by_cases hlt : k < n
    · go_wp2_with fail
      refine (full_0 _).mono ?_
      rintro e w3 ⟨g, rfl, hb, hg, hk3⟩
      have ht := ((NewB.of_box hb hg).rd).text (P := Try.prog) 47 9 5 512 Try.underlying47 Try.underlying5 Try.underlying9
      rw [zsec_length] at ht
      have l3 := LW2.out.still hk3
      have e1 := l3.now_cell k (by rw [now0_length _ _ hk]; exact hlt)
      have f1 := l3.nb.free k
      have l4 := l3.setNow k zsec
      rw [now0_set n k hlt] at l4
      have e2 := l4.now_cell k (by rw [now0_length _ _ (by omega)]; exact hlt)
      have hz : (now0 n (k + 1)).getD k [] = zsec := by rw [← now0_set n k hlt]; exact getD_set_same _ _ _ _ (by rw [now0_length _ _ hk]; exact hlt)
      rw [hz] at e2
      obtain ⟨A0, cp0, e3, _, _⟩ := (l4.alloc (.cells #[.string ⟨zsec.toArray⟩] 9)).may_cell k (by rw [may0_length _ _ hk]; exact hlt)
      obtain ⟨mv, hmv, _⟩ := (l4.alloc (.cells #[.string ⟨zsec.toArray⟩] 9)).rows
      have f3 := hmv.free k
      have kf := (Q3.out.trans hk3.of_false).setCell (p := ⟨gn, k, none⟩) (.inl l3.bn) (.string ⟨zsec.toArray⟩)
      have l5 := l4.reset kf.size k (by rw [may0_length _ _ hk]; exact hlt) zsec
      rw [may0_set n k hlt] at l5
      have hsz : (w3.setCell ⟨gn, k, none⟩ (.string ⟨zsec.toArray⟩)).heap.size = w3.heap.size := by simp [World.setCell]
      rw [hsz] at l5
      have L5 := Lib.hid l5
      have k5 := (kf.alloc (.cells #[.string ⟨zsec.toArray⟩] 9)).setCell (p := ⟨gy, k, none⟩) (.inl l3.by_) (.slice (some ⟨w3.heap.size, 0, none⟩) 1 1)
      have K5 := Lib.hid k5
      have d5 : Dsk (fun k => w.heap.size ≤ k) (((w3.setCell ⟨gn, k, none⟩ (.string ⟨zsec.toArray⟩)).alloc (.cells #[.string ⟨zsec.toArray⟩] 9)).setCell ⟨gy, k, none⟩ (.slice (some ⟨w3.heap.size, 0, none⟩) 1 1)) b (newDm n) := by
        have h0 := (D3.out.still hk3)
        have h1 := h0.off_cell l3.nb ⟨by decide, by decide, by decide⟩ k (.string ⟨zsec.toArray⟩)
        have h2 := h1.still ((Kp.refl _ _).alloc (.cells #[.string ⟨zsec.toArray⟩] 9))
        exact h2.off_cell hmv ⟨by decide, by decide, by decide⟩ k _
      have D5 := Lib.hid d5
      clear hb hg hk3 l3 l4 hz hmv kf l5 hsz k5 d5
      go_wp2_with fail
      go_roundw
      case rel => exact ⟨k + 1, by omega, by go_num, L5.out, D5.out, K5.out⟩
      case measure => simp [intOf]; omega
    · have hkn : k = n := by omega
      have hge : ¬ ((k : Int) < n) := by omega
      rw [hkn] at LW2
      have LM := LW2
      clear LW2 LW D2 Q2
      go_wp2_with fail
      have hks := keeps_start n
      have hrel0 : KRel w.heap.size w gn gy b n 0 wr := ⟨newDm n, _, _, LM.out, D3.out, hks.1, hks.2, by simp [newDm], by simp [newDm], by rw [may0, Nat.sub_self, List.replicate_zero, List.append_nil]; exact fun r hr => by rw [(List.mem_replicate.1 hr).2]; simp, Q3.out⟩
      have R0 := Lib.hid hrel0
      clear hks hrel0 LM D3 Q3 hge hkn hlt hk
      go_loopw [11] (fun i wr => ∃ k : Nat, k ≤ l.length ∧ i = .int .i64 k ∧ KRel w.heap.size w gn gy b n k wr)
        (fun i _ => l.length - (intOf i).toNat)
      case atStart => exact ⟨0, Nat.zero_le _, rfl, R0.out⟩
      case round =>
        obtain ⟨i, hi, rfl, hR⟩ := hrel
        have R := Lib.hid hR
        clear hR R0
        by_cases hlt : i < l.length
        · obtain ⟨d, now, may, lw, dk, ki, kn, hn, hw, few, q⟩ := R.out
          have HFW := Lib.hid few
          clear few
          have L := Lib.hid lw
          have D := Lib.hid dk
          have KII := Lib.hid ki
          have KNN := Lib.hid kn
          have Q := Lib.hid q
          have HN := Lib.hid hn
          clear lw dk ki kn q hn R
          obtain ⟨ab, ao, rfl, hab, hcell⟩ : ∃ b o, A = some ⟨b, o, none⟩ ∧ b < w.heap.size ∧ ∀ i x, l[i]? = some x → ∀ j v, x.cells[j]? = some v → w.cell? ⟨b, o + i * 5 + j, none⟩ = some v := by
            rcases H.out.2 with h0 | h0
            · rw [h0] at hlt; simp at hlt
            · exact h0
          obtain ⟨x, hx⟩ : ∃ x, l[i]? = some x := ⟨_, List.getElem?_eq_getElem hlt⟩
          have hxm : x ∈ l := List.mem_of_getElem? hx
          have hxo := H.out.1 x hxm
          have hxk := HK.out x hxm
          have hat : ∀ j v, x.cells[j]? = some v → wr.cell? ⟨ab, ao + i * 5 + j, none⟩ = some v := fun j v hv => (Q.out.cell (p := ⟨ab, ao + i * 5 + j, none⟩) hab (fun e => absurd (show w.heap.size ≤ ab from e) (by omega))).trans (hcell i x hx j v hv)
          have x0 := hat 0 (.int .u8 x.d) rfl
          have x1 := hat 1 (.int .i64 x.n) rfl
          have x2 := hat 2 (.string ⟨x.keep.toArray⟩) rfl
          have x3 := hat 3 (.int .u8 x.c.toNat) rfl
          have x4 := hat 4 (.bool x.short) rfl
          rw [Nat.add_zero] at x0
          clear hcell hat hx hxm
          go_wp2_with fail
          have D1 := Lib.hid (D.out.still ((Kp.refl _ wr).alloc (.cells x.cells 39)))
          have L1 := Lib.hid (L.out.alloc (.cells x.cells 39))
          have Q1 := Lib.hid (Q.out.alloc (.cells x.cells 39))
          have B1 := Lib.hid (Box.new wr 39 x.cells)
          refine (alive_any D1.out).mono ?_
          rintro e w2 ⟨rfl, rfl⟩
          generalize wr.alloc (.cells x.cells 39) = W1 at *
          have y0 : W1.cell? ⟨wr.heap.size, 0, none⟩ = some (.int .u8 x.d) := B1.out.cell 0
          have y1 : W1.cell? ⟨wr.heap.size, 1, none⟩ = some (.int .i64 x.n) := B1.out.cell 1
          have y2 : W1.cell? ⟨wr.heap.size, 2, none⟩ = some (.string ⟨x.keep.toArray⟩) := B1.out.cell 2
          have y3 : W1.cell? ⟨wr.heap.size, 3, none⟩ = some (.int .u8 x.c.toNat) := B1.out.cell 3
          have y4 : W1.cell? ⟨wr.heap.size, 4, none⟩ = some (.bool x.short) := B1.out.cell 4
          have hga : wr.heap.size < W1.heap.size := B1.out.lt
          generalize wr.heap.size = ga at *
          clear x0 x1 x2 x3 x4 L D Q
          go_upto_block 4 with fail
          go_cut [12] from 69 to 219 (fun p wx => p = .pointer (some ⟨ga, 0, none⟩) ∧ KMid w.heap.size w gn gy b n (i + 1) d.power wx)
          case first =>
            have hkl : x.keep.length ≤ maxLen := hxo.k1
            have hx1 := hxo.n1
            have hfl := flush_any (D1.out.both)
            have hcr := crash_any (D1.out.both) x.keep hkl
            have hst := start_any (D1.out.both)
            have hfu := fuse_any (D1.out.both) x.n (by omega) x.keep hkl
            have HFL := Lib.hid hfl
            have HCR := Lib.hid hcr
            have HST := Lib.hid hst
            have HFU := Lib.hid hfu
            have HXO := Lib.hid hxo
            clear hfl hcr hst hfu hxo hxk
            by_cases d0 : x.d = 0
            · as_aux_lemma =>
              have b0 : (x.d == 0) = true := by simpa using d0
              clear d0
              have HB0 := Lib.hid b0
              by_cases hp : d.power = true
              · by_cases ho : d.out = true
                · have hE : d.flushS = (d.lose d.keep, 4) := by simp [Dm.flushS, hp, ho]
                  rw [hE] at HFL
                  have HP := Lib.hid hp
                  clear hp ho hE
                  go_wp2_with fail
                  refine HFL.out.mono ?_
                  rintro e w3 ⟨rfl, h3, k3⟩
                  have L3 := Lib.hid (L1.out.dt k3)
                  have D3 := Lib.hid h3.one
                  have Q3 := Lib.hid (Q1.out.trans k3.one')
                  clear h3 k3
                  go_wp2_with fail
                  go_meet
                  exact ⟨rfl, mid_lose D1.out.ok d.keep L3.out D3.out KII.out HP.out HN.out HFW.out Q3.out⟩
                · have hE : d.flushS = (d.act.all, 0) := by simp [Dm.flushS, hp, ho]
                  rw [hE] at HFL
                  have hkf := KII.out.flush D1.out.ok KNN.out
                  have HKF := Lib.hid hkf
                  have hnl := KII.out.nlen
                  have hml := KII.out.mlen
                  have HNL := Lib.hid (hnl.trans HN.out)
                  have HML := Lib.hid (hml.trans hnl.symm)
                  clear hp ho hE hkf hnl hml
                  go_wp2_with fail
                  refine HFL.out.mono ?_
                  rintro e w3 ⟨rfl, h3, k3⟩
                  have L3 := Lib.hid (L1.out.dt k3)
                  have D3 := Lib.hid h3.one
                  have Q3 := Lib.hid (Q1.out.trans k3.one')
                  have L4 := Lib.hid (show Lw w.heap.size w3 gn gy now (mayN now may 0) by rw [mayN_zero]; exact L3.out)
                  clear h3 k3 L3
                  go_wp2_with fail
                  go_loopw [15] (fun v wr => ∃ j : Nat, j ≤ n ∧ v = .int .i64 j ∧ Lw w.heap.size wr gn gy now (mayN now may j) ∧ Dsk (fun k => w.heap.size ≤ k) wr b d.act.all ∧ Kp (fun k => w.heap.size ≤ k) w wr)
                    (fun v _ => n - (intOf v).toNat)
                  case atStart => exact ⟨0, Nat.zero_le _, rfl, L4.out, D3.out, Q3.out⟩
                  case round =>
                    obtain ⟨j, hj, rfl, hlw, hdk, hkw⟩ := hrel
                    have L5 := Lib.hid hlw
                    have D5 := Lib.hid hdk
                    have Q5 := Lib.hid hkw
                    clear hlw hdk hkw L4 D3 Q3
                    by_cases hlt : j < n
                    · have hjn : j < now.length := by rw [HNL.out]; exact hlt
                      have hjm : j < (mayN now may j).length := by rw [mayN_length now may j HML.out (by omega)]; exact hjn
                      have n2 := mayN_next now may j HML.out hjn
                      have e1 := L5.out.now_cell j hjn
                      obtain ⟨s, hs⟩ : ∃ s, now.getD j [] = s := ⟨_, rfl⟩
                      rw [hs] at e1 n2
                      have l4a := L5.out.alloc (.cells #[.string ⟨s.toArray⟩] 9)
                      obtain ⟨A0, cp0, e3, _, _⟩ := l4a.may_cell j hjm
                      obtain ⟨mv, hmv, _⟩ := l4a.rows
                      have f3 := hmv.free j
                      have l5 := L5.out.reset Q5.out.size j hjm s
                      rw [n2] at l5
                      have d5 := (D5.out.still ((Kp.refl _ wr).alloc (.cells #[.string ⟨s.toArray⟩] 9))).off_cell hmv ⟨by decide, by decide, by decide⟩ j (.slice (some ⟨wr.heap.size, 0, none⟩) 1 1)
                      have k5 := (Q5.out.alloc (.cells #[.string ⟨s.toArray⟩] 9)).setCell (p := ⟨gy, j, none⟩) (.inl L5.out.by_) (.slice (some ⟨wr.heap.size, 0, none⟩) 1 1)
                      have L6 := Lib.hid l5
                      have D6 := Lib.hid d5
                      have K6 := Lib.hid k5
                      clear n2 l4a hmv l5 d5 k5 hjm hjn hs
                      go_wp2_with fail
                      go_roundw
                      case rel => exact ⟨j + 1, by omega, by go_num, L6.out, D6.out, K6.out⟩
                      case measure => simp [intOf]; omega
                    · have hjn : j = n := by omega
                      have hge : ¬ ((j : Int) < n) := by omega
                      have e := mayN_all now may HML.out
                      rw [HNL.out, ← hjn] at e
                      rw [e] at L5
                      clear e hjn
                      go_wp2_with fail
                      go_meet
                      exact ⟨rfl, d.act.all, now, _, L5.out, D5.out, HKF.out.1, fun _ => HKF.out.2, by simpa [Dm.all, Dm.act, settleL_length] using HN.out, by simp [Dm.all], Few.ones _ _, Q5.out⟩
              · have hE : d.flushS = (d, 4) := by simp [Dm.flushS, hp]
                rw [hE] at HFL
                clear hp hE
                go_wp2_with fail
                refine HFL.out.mono ?_
                rintro e w3 ⟨rfl, h3, k3⟩
                have L3 := Lib.hid (L1.out.dt k3)
                have D3 := Lib.hid h3.one
                have Q3 := Lib.hid (Q1.out.trans k3.one')
                clear h3 k3
                go_wp2_with fail
                go_meet
                exact ⟨rfl, mid_alike L3.out D3.out KII.out KNN.out rfl rfl id HN.out hw HFW.out Q3.out⟩
            by_cases d1 : x.d = 1
            · as_aux_lemma =>
              have b0 : (x.d == 0) = false := by simpa using d0
              have b1 : (x.d == 1) = true := by simpa using d1
              clear d0 d1
              go_wp2_with fail
              refine HFU.out.mono ?_
              rintro e w3 ⟨rfl, h3, k3⟩
              have L3 := Lib.hid (L1.out.dt k3)
              have D3 := Lib.hid h3.one
              have Q3 := Lib.hid (Q1.out.trans k3.one')
              clear h3 k3
              go_wp2_with fail
              go_meet
              refine ⟨rfl, mid_alike (d' := (d.fuseS x.n x.keep).1) L3.out D3.out KII.out KNN.out ?_ ?_ ?_ HN.out hw HFW.out Q3.out⟩
              · unfold Dm.fuseS; split <;> rfl
              · unfold Dm.fuseS; split <;> rfl
              · unfold Dm.fuseS; split <;> exact id
            by_cases d2 : x.d = 2
            · as_aux_lemma =>
              have b0 : (x.d == 0) = false := by simpa using d0
              have b1 : (x.d == 1) = false := by simpa using d1
              have b2 : (x.d == 2) = true := by simpa using d2
              clear d0 d1 d2
              go_wp2_with fail
              refine HCR.out.mono ?_
              rintro e w3 ⟨rfl, h3, k3⟩
              have L3 := Lib.hid (L1.out.dt k3)
              have D3 := Lib.hid h3.one
              have Q3 := Lib.hid (Q1.out.trans k3.one')
              clear h3 k3
              go_wp2_with fail
              go_meet
              refine ⟨rfl, ?_⟩
              have hcs : d.crashS x.keep = if !d.power then (d, 4) else (d.lose x.keep, 0) := rfl
              have D4 := D3.out
              rcases hp : d.power with _ | _
              · rw [hcs, hp] at D4
                rw [← hp]
                exact mid_alike L3.out D4 KII.out KNN.out rfl rfl id HN.out hw HFW.out Q3.out
              · rw [hcs, hp] at D4
                rw [← hp]
                exact mid_lose D1.out.ok x.keep L3.out D4 KII.out hp HN.out HFW.out Q3.out
            by_cases d3 : x.d = 3
            · as_aux_lemma =>
              have b0 : (x.d == 0) = false := by simpa using d0
              have b1 : (x.d == 1) = false := by simpa using d1
              have b2 : (x.d == 2) = false := by simpa using d2
              have b3 : (x.d == 3) = true := by simpa using d3
              clear d0 d1 d2 d3
              go_wp2_with fail
              refine HST.out.mono ?_
              rintro e w3 ⟨rfl, h3, k3⟩
              have L3 := Lib.hid (L1.out.dt k3)
              have D3 := Lib.hid h3.one
              have Q3 := Lib.hid (Q1.out.trans k3.one')
              clear h3 k3
              go_wp2_with fail
              go_meet
              exact ⟨rfl, mid_alike (d' := d.startS) L3.out D3.out KII.out KNN.out rfl rfl (fun h => by cases h) HN.out hw HFW.out Q3.out⟩
            by_cases d4 : x.d = 4
            · as_aux_lemma =>
              have b0 : (x.d == 0) = false := by simpa using d0
              have b1 : (x.d == 1) = false := by simpa using d1
              have b2 : (x.d == 2) = false := by simpa using d2
              have b3 : (x.d == 3) = false := by simpa using d3
              have b4 : (x.d == 4) = true := by simpa using d4
              clear d0 d1 d2 d3 d4 HFL HCR HST HFU y0 y2 y3 y4
              have hrd := read_any D1.out x.n
              by_cases hp : d.power = true
              rotate_left
              · as_aux_lemma =>
                have hE : d.readS x.n = ([], 4) := by simp [Dm.readS, hp]
                rw [hE] at hrd
                dsimp only at hrd
                clear hp
                have HR := Lib.hid hrd
                clear hrd hE
                go_wp2_with fail
                refine HR.out.mono ?_
                rintro e y2 ⟨A2, rfl, hr2, k2⟩
                have L2 := Lib.hid (L1.out.still (k2.trans (Kp.refl _ y2).drew))
                have D2 := Lib.hid (D1.out.still (k2.trans (Kp.refl _ y2).drew))
                have Q2 := Lib.hid (Q1.out.trans (k2.trans (Kp.refl _ y2).drew).of_false)
                clear hr2 k2
                go_wp2_with fail
                refine wp_region_held_drew (S := fun _ => True) (by kernel_rfl) trivial (fun hHeld => ?_)
                refine wpAnyH_take (i := 0) (oi := { dst := some 160, op := Op.move (Operand.tmp 17), type := 26, pos := "law.go:179", after := #[], guard := none }) (v := ?_) rfl (by kernel_rfl) (by kernel_rfl) (by kernel_rfl) (fun _ _ _ h => h) (Or.inl ⟨by rfl, ?_⟩) (by assumption) ?_
                rotate_left
                · intro v hSw
                  go_simp
                  with_reducible rfl
                try simp only [Act.put, List.setIfInBounds_toArray, List.set_cons_zero, List.set_cons_succ]
                refine wpAnyH_take (i := 1) (oi := { dst := some 161, op := Op.binOp BinOp.eql 26 (Operand.tmp 160) (Operand.const (Value.int IntKind.i64 0)) 26, type := 4, pos := "law.go:179", after := #[{ on := 0, ground := Ground.data }], guard := none }) (v := ?_) rfl (by kernel_rfl) (by kernel_rfl) (by kernel_rfl) (fun _ _ _ h => h) (Or.inl ⟨by rfl, ?_⟩) (by assumption) ?_
                rotate_left
                · intro v hSw
                  go_simp
                  with_reducible rfl
                try simp only [Act.put, List.setIfInBounds_toArray, List.set_cons_zero, List.set_cons_succ]
                refine wpAnyH_take (i := 2) (oi := { dst := some 162, op := Op.move (Operand.tmp 161), type := 4, pos := "law.go:179", after := #[{ on := 1, ground := Ground.data }], guard := none }) (v := ?_) rfl (by kernel_rfl) (by kernel_rfl) (by kernel_rfl) (fun _ _ _ h => h) (Or.inl ⟨by rfl, ?_⟩) (by assumption) ?_
                rotate_left
                · intro v hSw
                  go_simp
                  with_reducible rfl
                try simp only [Act.put, List.setIfInBounds_toArray, List.set_cons_zero, List.set_cons_succ]
                refine wpAnyH_take (i := 3) (oi := { dst := some 163, op := Op.move (Operand.tmp 16), type := 47, pos := "law.go:179", after := #[{ on := 2, ground := Ground.guard }], guard := some (2, true) }) (v := undef) rfl (by kernel_rfl) (by kernel_rfl) (by kernel_rfl) (fun _ _ _ h => h) (Or.inr ⟨by rfl, rfl⟩) (by assumption) ?_
                try simp only [Act.put, List.setIfInBounds_toArray, List.set_cons_zero, List.set_cons_succ]
                refine wpAnyH_take (i := 4) (oi := { dst := some 164, op := Op.convert 47 9 (Operand.tmp 163), type := 9, pos := "law.go:179", after := #[{ on := 3, ground := Ground.data }, { on := 2, ground := Ground.guard }], guard := some (2, true) }) (v := undef) rfl (by kernel_rfl) (by kernel_rfl) (by kernel_rfl) (fun _ _ _ h => h) (Or.inr ⟨by rfl, rfl⟩) (by assumption) ?_
                try simp only [Act.put, List.setIfInBounds_toArray, List.set_cons_zero, List.set_cons_succ]
                refine wpAnyH_take (i := 5) (oi := { dst := some 165, op := Op.move (Operand.tmp 9), type := 29, pos := "law.go:179", after := #[{ on := 2, ground := Ground.guard }], guard := some (2, true) }) (v := undef) rfl (by kernel_rfl) (by kernel_rfl) (by kernel_rfl) (fun _ _ _ h => h) (Or.inr ⟨by rfl, rfl⟩) (by assumption) ?_
                try simp only [Act.put, List.setIfInBounds_toArray, List.set_cons_zero, List.set_cons_succ]
                refine wpAnyH_take (i := 6) (oi := { dst := some 166, op := Op.fieldAddr 39 (Operand.tmp 12) 1, type := 0, pos := "law.go:179", after := #[{ on := 2, ground := Ground.guard }], guard := some (2, true) }) (v := undef) rfl (by kernel_rfl) (by kernel_rfl) (by kernel_rfl) (fun _ _ _ h => h) (Or.inr ⟨by rfl, rfl⟩) (by assumption) ?_
                try simp only [Act.put, List.setIfInBounds_toArray, List.set_cons_zero, List.set_cons_succ]
                refine wpAnyH_take (i := 7) (oi := { dst := some 167, op := Op.load 3 (Operand.tmp 166), type := 3, pos := "law.go:179", after := #[{ on := 6, ground := Ground.data }, { on := 2, ground := Ground.guard }], guard := some (2, true) }) (v := undef) rfl (by kernel_rfl) (by kernel_rfl) (by kernel_rfl) (fun _ _ _ h => h) (Or.inr ⟨by rfl, rfl⟩) (by assumption) ?_
                try simp only [Act.put, List.setIfInBounds_toArray, List.set_cons_zero, List.set_cons_succ]
                refine wpAnyH_take (i := 8) (oi := { dst := some 168, op := Op.indexAddr 29 (Operand.tmp 165) (Operand.tmp 167), type := 0, pos := "law.go:179", after := #[{ on := 5, ground := Ground.data }, { on := 7, ground := Ground.data }, { on := 2, ground := Ground.guard }], guard := some (2, true) }) (v := undef) rfl (by kernel_rfl) (by kernel_rfl) (by kernel_rfl) (fun _ _ _ h => h) (Or.inr ⟨by rfl, rfl⟩) (by assumption) ?_
                try simp only [Act.put, List.setIfInBounds_toArray, List.set_cons_zero, List.set_cons_succ]
                refine wpAnyH_take (i := 9) (oi := { dst := some 169, op := Op.load 9 (Operand.tmp 168), type := 9, pos := "law.go:179", after := #[{ on := 8, ground := Ground.data }, { on := 2, ground := Ground.guard }], guard := some (2, true) }) (v := undef) rfl (by kernel_rfl) (by kernel_rfl) (by kernel_rfl) (fun _ _ _ h => h) (Or.inr ⟨by rfl, rfl⟩) (by assumption) ?_
                try simp only [Act.put, List.setIfInBounds_toArray, List.set_cons_zero, List.set_cons_succ]
                refine wpAnyH_take (i := 10) (oi := { dst := some 170, op := Op.binOp BinOp.neq 9 (Operand.tmp 164) (Operand.tmp 169) 9, type := 4, pos := "law.go:179", after := #[{ on := 4, ground := Ground.data }, { on := 9, ground := Ground.data }, { on := 2, ground := Ground.guard }], guard := some (2, true) }) (v := undef) rfl (by kernel_rfl) (by kernel_rfl) (by kernel_rfl) (fun _ _ _ h => h) (Or.inr ⟨by rfl, rfl⟩) (by assumption) ?_
                try simp only [Act.put, List.setIfInBounds_toArray, List.set_cons_zero, List.set_cons_succ]
                refine wpAnyH_take (i := 11) (oi := { dst := some 171, op := Op.pick (Operand.tmp 162) (Operand.tmp 170) (Operand.const (Value.bool false)), type := 4, pos := "law.go:179", after := #[{ on := 2, ground := Ground.data }, { on := 10, ground := Ground.data }], guard := none }) (v := ?_) rfl (by kernel_rfl) (by kernel_rfl) (by kernel_rfl) (fun _ _ _ h => h) (Or.inl ⟨by rfl, ?_⟩) (by assumption) ?_
                rotate_left
                · intro v hSw
                  go_simp
                  with_reducible rfl
                try simp only [Act.put, List.setIfInBounds_toArray, List.set_cons_zero, List.set_cons_succ]
                refine wpAnyH_done (by kernel_rfl) ?_ _
                go_wp2_with fail
                go_meet
                exact ⟨rfl, mid_alike L2.out D2.out KII.out KNN.out rfl rfl id HN.out hw HFW.out Q2.out⟩
              by_cases hs : secB d x.n = true
              rotate_left
              · as_aux_lemma =>
                have hE : d.readS x.n = ([], 2) := by
                  unfold Dm.readS
                  rw [hp, Bool.eq_false_iff.2 hs]
                  rfl
                rw [hE] at hrd
                dsimp only at hrd
                clear hp hs
                have HR := Lib.hid hrd
                clear hrd hE
                go_wp2_with fail
                refine HR.out.mono ?_
                rintro e y2 ⟨A2, rfl, hr2, k2⟩
                have L2 := Lib.hid (L1.out.still (k2.trans (Kp.refl _ y2).drew))
                have D2 := Lib.hid (D1.out.still (k2.trans (Kp.refl _ y2).drew))
                have Q2 := Lib.hid (Q1.out.trans (k2.trans (Kp.refl _ y2).drew).of_false)
                clear hr2 k2
                go_wp2_with fail
                refine wp_region_held_drew (S := fun _ => True) (by kernel_rfl) trivial (fun hHeld => ?_)
                refine wpAnyH_take (i := 0) (oi := { dst := some 160, op := Op.move (Operand.tmp 17), type := 26, pos := "law.go:179", after := #[], guard := none }) (v := ?_) rfl (by kernel_rfl) (by kernel_rfl) (by kernel_rfl) (fun _ _ _ h => h) (Or.inl ⟨by rfl, ?_⟩) (by assumption) ?_
                rotate_left
                · intro v hSw
                  go_simp
                  with_reducible rfl
                try simp only [Act.put, List.setIfInBounds_toArray, List.set_cons_zero, List.set_cons_succ]
                refine wpAnyH_take (i := 1) (oi := { dst := some 161, op := Op.binOp BinOp.eql 26 (Operand.tmp 160) (Operand.const (Value.int IntKind.i64 0)) 26, type := 4, pos := "law.go:179", after := #[{ on := 0, ground := Ground.data }], guard := none }) (v := ?_) rfl (by kernel_rfl) (by kernel_rfl) (by kernel_rfl) (fun _ _ _ h => h) (Or.inl ⟨by rfl, ?_⟩) (by assumption) ?_
                rotate_left
                · intro v hSw
                  go_simp
                  with_reducible rfl
                try simp only [Act.put, List.setIfInBounds_toArray, List.set_cons_zero, List.set_cons_succ]
                refine wpAnyH_take (i := 2) (oi := { dst := some 162, op := Op.move (Operand.tmp 161), type := 4, pos := "law.go:179", after := #[{ on := 1, ground := Ground.data }], guard := none }) (v := ?_) rfl (by kernel_rfl) (by kernel_rfl) (by kernel_rfl) (fun _ _ _ h => h) (Or.inl ⟨by rfl, ?_⟩) (by assumption) ?_
                rotate_left
                · intro v hSw
                  go_simp
                  with_reducible rfl
                try simp only [Act.put, List.setIfInBounds_toArray, List.set_cons_zero, List.set_cons_succ]
                refine wpAnyH_take (i := 3) (oi := { dst := some 163, op := Op.move (Operand.tmp 16), type := 47, pos := "law.go:179", after := #[{ on := 2, ground := Ground.guard }], guard := some (2, true) }) (v := undef) rfl (by kernel_rfl) (by kernel_rfl) (by kernel_rfl) (fun _ _ _ h => h) (Or.inr ⟨by rfl, rfl⟩) (by assumption) ?_
                try simp only [Act.put, List.setIfInBounds_toArray, List.set_cons_zero, List.set_cons_succ]
                refine wpAnyH_take (i := 4) (oi := { dst := some 164, op := Op.convert 47 9 (Operand.tmp 163), type := 9, pos := "law.go:179", after := #[{ on := 3, ground := Ground.data }, { on := 2, ground := Ground.guard }], guard := some (2, true) }) (v := undef) rfl (by kernel_rfl) (by kernel_rfl) (by kernel_rfl) (fun _ _ _ h => h) (Or.inr ⟨by rfl, rfl⟩) (by assumption) ?_
                try simp only [Act.put, List.setIfInBounds_toArray, List.set_cons_zero, List.set_cons_succ]
                refine wpAnyH_take (i := 5) (oi := { dst := some 165, op := Op.move (Operand.tmp 9), type := 29, pos := "law.go:179", after := #[{ on := 2, ground := Ground.guard }], guard := some (2, true) }) (v := undef) rfl (by kernel_rfl) (by kernel_rfl) (by kernel_rfl) (fun _ _ _ h => h) (Or.inr ⟨by rfl, rfl⟩) (by assumption) ?_
                try simp only [Act.put, List.setIfInBounds_toArray, List.set_cons_zero, List.set_cons_succ]
                refine wpAnyH_take (i := 6) (oi := { dst := some 166, op := Op.fieldAddr 39 (Operand.tmp 12) 1, type := 0, pos := "law.go:179", after := #[{ on := 2, ground := Ground.guard }], guard := some (2, true) }) (v := undef) rfl (by kernel_rfl) (by kernel_rfl) (by kernel_rfl) (fun _ _ _ h => h) (Or.inr ⟨by rfl, rfl⟩) (by assumption) ?_
                try simp only [Act.put, List.setIfInBounds_toArray, List.set_cons_zero, List.set_cons_succ]
                refine wpAnyH_take (i := 7) (oi := { dst := some 167, op := Op.load 3 (Operand.tmp 166), type := 3, pos := "law.go:179", after := #[{ on := 6, ground := Ground.data }, { on := 2, ground := Ground.guard }], guard := some (2, true) }) (v := undef) rfl (by kernel_rfl) (by kernel_rfl) (by kernel_rfl) (fun _ _ _ h => h) (Or.inr ⟨by rfl, rfl⟩) (by assumption) ?_
                try simp only [Act.put, List.setIfInBounds_toArray, List.set_cons_zero, List.set_cons_succ]
                refine wpAnyH_take (i := 8) (oi := { dst := some 168, op := Op.indexAddr 29 (Operand.tmp 165) (Operand.tmp 167), type := 0, pos := "law.go:179", after := #[{ on := 5, ground := Ground.data }, { on := 7, ground := Ground.data }, { on := 2, ground := Ground.guard }], guard := some (2, true) }) (v := undef) rfl (by kernel_rfl) (by kernel_rfl) (by kernel_rfl) (fun _ _ _ h => h) (Or.inr ⟨by rfl, rfl⟩) (by assumption) ?_
                try simp only [Act.put, List.setIfInBounds_toArray, List.set_cons_zero, List.set_cons_succ]
                refine wpAnyH_take (i := 9) (oi := { dst := some 169, op := Op.load 9 (Operand.tmp 168), type := 9, pos := "law.go:179", after := #[{ on := 8, ground := Ground.data }, { on := 2, ground := Ground.guard }], guard := some (2, true) }) (v := undef) rfl (by kernel_rfl) (by kernel_rfl) (by kernel_rfl) (fun _ _ _ h => h) (Or.inr ⟨by rfl, rfl⟩) (by assumption) ?_
                try simp only [Act.put, List.setIfInBounds_toArray, List.set_cons_zero, List.set_cons_succ]
                refine wpAnyH_take (i := 10) (oi := { dst := some 170, op := Op.binOp BinOp.neq 9 (Operand.tmp 164) (Operand.tmp 169) 9, type := 4, pos := "law.go:179", after := #[{ on := 4, ground := Ground.data }, { on := 9, ground := Ground.data }, { on := 2, ground := Ground.guard }], guard := some (2, true) }) (v := undef) rfl (by kernel_rfl) (by kernel_rfl) (by kernel_rfl) (fun _ _ _ h => h) (Or.inr ⟨by rfl, rfl⟩) (by assumption) ?_
                try simp only [Act.put, List.setIfInBounds_toArray, List.set_cons_zero, List.set_cons_succ]
                refine wpAnyH_take (i := 11) (oi := { dst := some 171, op := Op.pick (Operand.tmp 162) (Operand.tmp 170) (Operand.const (Value.bool false)), type := 4, pos := "law.go:179", after := #[{ on := 2, ground := Ground.data }, { on := 10, ground := Ground.data }], guard := none }) (v := ?_) rfl (by kernel_rfl) (by kernel_rfl) (by kernel_rfl) (fun _ _ _ h => h) (Or.inl ⟨by rfl, ?_⟩) (by assumption) ?_
                rotate_left
                · intro v hSw
                  go_simp
                  with_reducible rfl
                try simp only [Act.put, List.setIfInBounds_toArray, List.set_cons_zero, List.set_cons_succ]
                refine wpAnyH_done (by kernel_rfl) ?_ _
                go_wp2_with fail
                go_meet
                exact ⟨rfl, mid_alike L2.out D2.out KII.out KNN.out rfl rfl id HN.out hw HFW.out Q2.out⟩
              obtain ⟨hs0, hs1⟩ : 0 ≤ x.n ∧ x.n < d.on.length := by simpa [secB] using hs
              obtain ⟨a, ha⟩ : ∃ a : Nat, x.n = a := ⟨x.n.toNat, by omega⟩
              have had : a < d.on.length := by omega
              have han : a < n := by rw [← HN.out]; exact had
              have hE : d.readS (a : Int) = (d.nowAt a, 0) := by
                unfold Dm.readS
                rw [← ha, hp, hs, ha]
                rfl
              rw [ha] at hrd y1
              rw [hE] at hrd
              dsimp only at hrd
              have hnw : d.nowAt a = now.getD a [] := KNN.out a had
              have hnl := KII.out.nlen.trans HN.out
              have hain : (a : Int) < (n : Int) := by omega
              have HNW := Lib.hid hnw
              have HNL := Lib.hid hnl
              have HR := Lib.hid hrd
              clear hrd hE hp hs hs0 hs1 ha hnw hnl hx1 HXO
              go_wp2_with fail
              refine HR.out.mono ?_
              rintro e y2 ⟨A2, rfl, hr2, k2⟩
              have L2 := Lib.hid (L1.out.still (k2.trans (Kp.refl _ y2).drew))
              have D2 := Lib.hid (D1.out.still (k2.trans (Kp.refl _ y2).drew))
              have Q2 := Lib.hid (Q1.out.trans (k2.trans (Kp.refl _ y2).drew).of_false)
              have y1b := (k2.cell (p := ⟨ga, 1, none⟩) hga (fun h => h)).trans y1
              have e1 := (L1.out.still k2).now_cell a (by rw [HNL.out]; exact han)
              rw [← HNW.out] at e1
              have ht := fun v (hv : Kp (fun _ => False) y2 v) => (hr2.kp hv (fun _ _ h => h)).text (P := Try.prog) 47 9 5 (d.nowAt a).length Try.underlying47 Try.underlying5 Try.underlying9
              clear hr2 k2
              go_wp2_with fail
              refine wp_region_held_drew (S := fun v => v.cell? ⟨ga, 1, none⟩ = some (.int .i64 (a : Int)) ∧ v.cell? ⟨gn, a, none⟩ = some (.string ⟨(d.nowAt a).toArray⟩) ∧ Kp (fun _ => False) y2 v) (by kernel_rfl) ⟨y1b, e1, (Kp.refl _ y2).drew⟩ (fun hHeld => ?_)
              refine wpAnyH_take (i := 0) (oi := { dst := some 160, op := Op.move (Operand.tmp 17), type := 26, pos := "law.go:179", after := #[], guard := none }) (v := ?_) rfl (by kernel_rfl) (by kernel_rfl) (by kernel_rfl) (fun _ _ _ h => h) (Or.inl ⟨by rfl, ?_⟩) (by assumption) ?_
              rotate_left
              · intro v hSw
                go_simp
                with_reducible rfl
              try simp only [Act.put, List.setIfInBounds_toArray, List.set_cons_zero, List.set_cons_succ]
              refine wpAnyH_take (i := 1) (oi := { dst := some 161, op := Op.binOp BinOp.eql 26 (Operand.tmp 160) (Operand.const (Value.int IntKind.i64 0)) 26, type := 4, pos := "law.go:179", after := #[{ on := 0, ground := Ground.data }], guard := none }) (v := ?_) rfl (by kernel_rfl) (by kernel_rfl) (by kernel_rfl) (fun _ _ _ h => h) (Or.inl ⟨by rfl, ?_⟩) (by assumption) ?_
              rotate_left
              · intro v hSw
                go_simp
                with_reducible rfl
              try simp only [Act.put, List.setIfInBounds_toArray, List.set_cons_zero, List.set_cons_succ]
              refine wpAnyH_take (i := 2) (oi := { dst := some 162, op := Op.move (Operand.tmp 161), type := 4, pos := "law.go:179", after := #[{ on := 1, ground := Ground.data }], guard := none }) (v := ?_) rfl (by kernel_rfl) (by kernel_rfl) (by kernel_rfl) (fun _ _ _ h => h) (Or.inl ⟨by rfl, ?_⟩) (by assumption) ?_
              rotate_left
              · intro v hSw
                go_simp
                with_reducible rfl
              try simp only [Act.put, List.setIfInBounds_toArray, List.set_cons_zero, List.set_cons_succ]
              refine wpAnyH_take (i := 3) (oi := { dst := some 163, op := Op.move (Operand.tmp 16), type := 47, pos := "law.go:179", after := #[{ on := 2, ground := Ground.guard }], guard := some (2, true) }) (v := ?_) rfl (by kernel_rfl) (by kernel_rfl) (by kernel_rfl) (fun _ _ _ h => h) (Or.inl ⟨by rfl, ?_⟩) (by assumption) ?_
              rotate_left
              · intro v hSw
                go_simp
                with_reducible rfl
              try simp only [Act.put, List.setIfInBounds_toArray, List.set_cons_zero, List.set_cons_succ]
              refine wpAnyH_take (i := 4) (oi := { dst := some 164, op := Op.convert 47 9 (Operand.tmp 163), type := 9, pos := "law.go:179", after := #[{ on := 3, ground := Ground.data }, { on := 2, ground := Ground.guard }], guard := some (2, true) }) (v := ?_) rfl (by kernel_rfl) (by kernel_rfl) (by kernel_rfl) (fun _ _ _ h => h) (Or.inl ⟨by rfl, ?_⟩) (by assumption) ?_
              rotate_left
              · intro v hSw
                go_simp
                with_reducible rfl
              try simp only [Act.put, List.setIfInBounds_toArray, List.set_cons_zero, List.set_cons_succ]
              refine wpAnyH_take (i := 5) (oi := { dst := some 165, op := Op.move (Operand.tmp 9), type := 29, pos := "law.go:179", after := #[{ on := 2, ground := Ground.guard }], guard := some (2, true) }) (v := ?_) rfl (by kernel_rfl) (by kernel_rfl) (by kernel_rfl) (fun _ _ _ h => h) (Or.inl ⟨by rfl, ?_⟩) (by assumption) ?_
              rotate_left
              · intro v hSw
                go_simp
                with_reducible rfl
              try simp only [Act.put, List.setIfInBounds_toArray, List.set_cons_zero, List.set_cons_succ]
              refine wpAnyH_take (i := 6) (oi := { dst := some 166, op := Op.fieldAddr 39 (Operand.tmp 12) 1, type := 0, pos := "law.go:179", after := #[{ on := 2, ground := Ground.guard }], guard := some (2, true) }) (v := ?_) rfl (by kernel_rfl) (by kernel_rfl) (by kernel_rfl) (fun _ _ _ h => h) (Or.inl ⟨by rfl, ?_⟩) (by assumption) ?_
              rotate_left
              · intro v hSw
                go_simp
                with_reducible rfl
              try simp only [Act.put, List.setIfInBounds_toArray, List.set_cons_zero, List.set_cons_succ]
              refine wpAnyH_take (i := 7) (oi := { dst := some 167, op := Op.load 3 (Operand.tmp 166), type := 3, pos := "law.go:179", after := #[{ on := 6, ground := Ground.data }, { on := 2, ground := Ground.guard }], guard := some (2, true) }) (v := ?_) rfl (by kernel_rfl) (by kernel_rfl) (by kernel_rfl) (fun _ _ _ h => h) (Or.inl ⟨by rfl, ?_⟩) (by assumption) ?_
              rotate_left
              · intro v hSw
                go_simp
                with_reducible rfl
              try simp only [Act.put, List.setIfInBounds_toArray, List.set_cons_zero, List.set_cons_succ]
              refine wpAnyH_take (i := 8) (oi := { dst := some 168, op := Op.indexAddr 29 (Operand.tmp 165) (Operand.tmp 167), type := 0, pos := "law.go:179", after := #[{ on := 5, ground := Ground.data }, { on := 7, ground := Ground.data }, { on := 2, ground := Ground.guard }], guard := some (2, true) }) (v := ?_) rfl (by kernel_rfl) (by kernel_rfl) (by kernel_rfl) (fun _ _ _ h => h) (Or.inl ⟨by rfl, ?_⟩) (by assumption) ?_
              rotate_left
              · intro v hSw
                go_simp
                with_reducible rfl
              try simp only [Act.put, List.setIfInBounds_toArray, List.set_cons_zero, List.set_cons_succ]
              refine wpAnyH_take (i := 9) (oi := { dst := some 169, op := Op.load 9 (Operand.tmp 168), type := 9, pos := "law.go:179", after := #[{ on := 8, ground := Ground.data }, { on := 2, ground := Ground.guard }], guard := some (2, true) }) (v := ?_) rfl (by kernel_rfl) (by kernel_rfl) (by kernel_rfl) (fun _ _ _ h => h) (Or.inl ⟨by rfl, ?_⟩) (by assumption) ?_
              rotate_left
              · intro v hSw
                go_simp
                with_reducible rfl
              try simp only [Act.put, List.setIfInBounds_toArray, List.set_cons_zero, List.set_cons_succ]
              refine wpAnyH_take (i := 10) (oi := { dst := some 170, op := Op.binOp BinOp.neq 9 (Operand.tmp 164) (Operand.tmp 169) 9, type := 4, pos := "law.go:179", after := #[{ on := 4, ground := Ground.data }, { on := 9, ground := Ground.data }, { on := 2, ground := Ground.guard }], guard := some (2, true) }) (v := ?_) rfl (by kernel_rfl) (by kernel_rfl) (by kernel_rfl) (fun _ _ _ h => h) (Or.inl ⟨by rfl, ?_⟩) (by assumption) ?_
              rotate_left
              · intro v hSw
                go_simp
                with_reducible rfl
              try simp only [Act.put, List.setIfInBounds_toArray, List.set_cons_zero, List.set_cons_succ]
              refine wpAnyH_take (i := 11) (oi := { dst := some 171, op := Op.pick (Operand.tmp 162) (Operand.tmp 170) (Operand.const (Value.bool false)), type := 4, pos := "law.go:179", after := #[{ on := 2, ground := Ground.data }, { on := 10, ground := Ground.data }], guard := none }) (v := ?_) rfl (by kernel_rfl) (by kernel_rfl) (by kernel_rfl) (fun _ _ _ h => h) (Or.inl ⟨by rfl, ?_⟩) (by assumption) ?_
              rotate_left
              · intro v hSw
                go_simp
                with_reducible rfl
              try simp only [Act.put, List.setIfInBounds_toArray, List.set_cons_zero, List.set_cons_succ]
              refine wpAnyH_done (by kernel_rfl) ?_ _
              go_wp2_with fail
              go_meet
              exact ⟨rfl, mid_alike L2.out D2.out KII.out KNN.out rfl rfl id HN.out hw HFW.out Q2.out⟩
            · as_aux_lemma =>
              have b0 : (x.d == 0) = false := by simpa using d0
              have b1 : (x.d == 1) = false := by simpa using d1
              have b2 : (x.d == 2) = false := by simpa using d2
              have b3 : (x.d == 3) = false := by simpa using d3
              have b4 : (x.d == 4) = false := by simpa using d4
              clear d0 d1 d2 d3 d4 HFL HCR HST HFU y0 y1 y2 y3 y4
              have HB0 := Lib.hid b0
              have hBa : Box W1 ga 39 #[.int .u8 x.d, .int .i64 x.n, .string ⟨x.keep.toArray⟩, .int .u8 x.c.toNat, .bool x.short] := B1.out
              by_cases hp : d.power = true
              rotate_left
              · as_aux_lemma =>
                have hE : d.writeS x.n (dataL x.c x.short) = (d, 4) := by simp [Dm.writeS, hp]
                have HBXa := Lib.hid hBa
                clear hBa
                clear hp
                have HE := Lib.hid hE
                clear hE
                go_wp2_with fail
                refine wp_region_held_drew (S := fun v => v.cell? ⟨ga, 0, none⟩ = some (.int .u8 x.d) ∧ v.cell? ⟨ga, 1, none⟩ = some (.int .i64 x.n) ∧ v.cell? ⟨ga, 2, none⟩ = some (.string ⟨x.keep.toArray⟩) ∧ v.cell? ⟨ga, 3, none⟩ = some (.int .u8 x.c.toNat) ∧ v.cell? ⟨ga, 4, none⟩ = some (.bool x.short)) (by kernel_rfl) (act_cells HBXa.out.drew) (fun hHeld => ?_)
                refine wpAnyH_take (i := 0) (oi := { dst := some 83, op := Op.move (Operand.tmp 6), type := 25, pos := "law.go:183", after := #[], guard := none }) (v := ?_) rfl (by kernel_rfl) (by kernel_rfl) (by kernel_rfl) (fun _ _ _ h => h) (Or.inl ⟨by rfl, ?_⟩) (by assumption) ?_
                rotate_left
                · intro v hSw
                  try dsimp only at hSw
                  go_simp
                  with_reducible rfl
                try simp only [Act.put, List.setIfInBounds_toArray, List.set_cons_zero, List.set_cons_succ]
                refine wpAnyH_take (i := 1) (oi := { dst := some 84, op := Op.fieldAddr 39 (Operand.tmp 12) 1, type := 0, pos := "law.go:183", after := #[], guard := none }) (v := ?_) rfl (by kernel_rfl) (by kernel_rfl) (by kernel_rfl) (fun _ _ _ h => h) (Or.inl ⟨by rfl, ?_⟩) (by assumption) ?_
                rotate_left
                · intro v hSw
                  try dsimp only at hSw
                  go_simp
                  with_reducible rfl
                try simp only [Act.put, List.setIfInBounds_toArray, List.set_cons_zero, List.set_cons_succ]
                refine wpAnyH_take (i := 2) (oi := { dst := some 85, op := Op.load 3 (Operand.tmp 84), type := 3, pos := "law.go:183", after := #[{ on := 1, ground := Ground.data }], guard := none }) (v := ?_) rfl (by kernel_rfl) (by kernel_rfl) (by kernel_rfl) (fun _ _ _ h => h) (Or.inl ⟨by rfl, ?_⟩) (by assumption) ?_
                rotate_left
                · intro v hSw
                  try dsimp only at hSw
                  go_simp
                  with_reducible rfl
                try simp only [Act.put, List.setIfInBounds_toArray, List.set_cons_zero, List.set_cons_succ]
                refine wpAnyH_take (i := 3) (oi := { dst := some 86, op := Op.load 39 (Operand.tmp 12), type := 39, pos := "law.go:183", after := #[], guard := none }) (v := ?_) rfl (by kernel_rfl) (by kernel_rfl) (by kernel_rfl) (fun _ _ _ h => h) (Or.inl ⟨by rfl, ?_⟩) (by assumption) ?_
                rotate_left
                · intro v hSw
                  try dsimp only at hSw
                  go_simp
                  with_reducible rfl
                try simp only [Act.put, List.setIfInBounds_toArray, List.set_cons_zero, List.set_cons_succ]
                refine wpAnyH_ready (rs := [4]) (by kernel_rfl) (by simp) ?_
                refine AllReadyH.cons (o := { dst := some 87, op := Op.call { callee := Callee.value (Operand.func 26), args := #[Operand.tmp 86], argTypes := #[39] }, type := 47, pos := "law.go:183", after := #[{ on := 3, ground := Ground.data }], guard := none }) rfl (fun K hK => ?_) AllReadyH.nil
                go_simp
                refine (data_any _ _ _ x.c x.short _).mono ?_
                rintro e y1 ⟨AD1, nD1, rfl, hnb1, hkd1⟩
                have HNB1 := Lib.hid hnb1
                have HKD1 := Lib.hid hkd1
                have HBX1 := Lib.hid (Box.kp (S := fun _ => False) HBXa.out.drew hkd1 (fun h => h))
                clear hnb1 hkd1
                go_wp2_with fail
                refine hK.out _ _ (act_cells HBX1.out) (fun hHeld4 => ?_)
                clear hK K
                try simp only [Act.put, List.setIfInBounds_toArray, List.set_cons_zero, List.set_cons_succ]
                refine wpAnyH_ready (rs := [5]) (by kernel_rfl) (by simp) ?_
                refine AllReadyH.cons (o := { dst := some 88, op := Op.call { callee := Callee.value (Operand.func 18), args := #[Operand.tmp 83, Operand.tmp 85, Operand.tmp 87], argTypes := #[25, 3, 47] }, type := 26, pos := "law.go:183", after := #[{ on := 0, ground := Ground.data }, { on := 2, ground := Ground.data }, { on := 4, ground := Ground.data }, { on := 4, ground := Ground.chain }], guard := none }) rfl (fun K hK => ?_) AllReadyH.nil
                go_simp
                have hwr := write_any (both_new (B := w.heap.size) (Nat.le_trans Q1.out.size HKD1.out.size)) (D1.out.still (((Kp.refl _ W1).drew).trans HKD1.out)).both x.n AD1 (dataL x.c x.short) nD1 HNB1.out.rd HNB1.out.off (by omega)
                rw [HE.out] at hwr
                refine hwr.mono ?_
                clear hwr
                rintro e y2 ⟨rfl, h5, k5⟩
                have HBX2 := Lib.hid (HBX1.out.dt k5 ⟨by decide, by decide, by decide⟩)
                have L2 := Lib.hid ((L1.out.still (((Kp.refl _ W1).drew).trans HKD1.out)).dt k5)
                have D2 := Lib.hid h5.one
                have Q2 := Lib.hid ((Q1.out.drew.trans HKD1.out.of_false).trans k5.one')
                clear h5 k5
                go_wp2_with fail
                refine hK.out _ _ (act_cells HBX2.out) (fun hHeld5 => ?_)
                clear hK K
                try simp only [Act.put, List.setIfInBounds_toArray, List.set_cons_zero, List.set_cons_succ]
                refine wpAnyH_take (i := 6) (oi := { dst := some 14, op := Op.assign (Operand.tmp 88), type := 26, pos := "law.go:183", after := #[{ on := 5, ground := Ground.data }, { on := 5, ground := Ground.chain }, { on := 0, ground := Ground.phase }, { on := 1, ground := Ground.phase }, { on := 2, ground := Ground.phase }, { on := 3, ground := Ground.phase }, { on := 4, ground := Ground.phase }, { on := 5, ground := Ground.phase }], guard := none }) (v := ?_) rfl (by kernel_rfl) (by kernel_rfl) (by kernel_rfl) (fun _ _ _ h => h) (Or.inl ⟨by rfl, ?_⟩) (by assumption) ?_
                rotate_left
                · intro v hSw
                  try dsimp only at hSw
                  go_simp
                  with_reducible rfl
                try simp only [Act.put, List.setIfInBounds_toArray, List.set_cons_zero, List.set_cons_succ]
                refine wpAnyH_done (by kernel_rfl) ?_ _
                go_wp2_with fail
                go_meet
                exact ⟨rfl, mid_alike L2.out D2.out KII.out KNN.out rfl rfl id HN.out hw HFW.out Q2.out⟩
              by_cases hsl : (secB d x.n && (dataL x.c x.short).length == 512) = true
              rotate_left
              · as_aux_lemma =>
                have hE : d.writeS x.n (dataL x.c x.short) = (d, 2) := by
                  unfold Dm.writeS
                  rw [hp, Bool.eq_false_iff.2 hsl]
                  rfl
                have HBXa := Lib.hid hBa
                clear hBa
                clear hp hsl
                have HE := Lib.hid hE
                clear hE
                go_wp2_with fail
                refine wp_region_held_drew (S := fun v => v.cell? ⟨ga, 0, none⟩ = some (.int .u8 x.d) ∧ v.cell? ⟨ga, 1, none⟩ = some (.int .i64 x.n) ∧ v.cell? ⟨ga, 2, none⟩ = some (.string ⟨x.keep.toArray⟩) ∧ v.cell? ⟨ga, 3, none⟩ = some (.int .u8 x.c.toNat) ∧ v.cell? ⟨ga, 4, none⟩ = some (.bool x.short)) (by kernel_rfl) (act_cells HBXa.out.drew) (fun hHeld => ?_)
                refine wpAnyH_take (i := 0) (oi := { dst := some 83, op := Op.move (Operand.tmp 6), type := 25, pos := "law.go:183", after := #[], guard := none }) (v := ?_) rfl (by kernel_rfl) (by kernel_rfl) (by kernel_rfl) (fun _ _ _ h => h) (Or.inl ⟨by rfl, ?_⟩) (by assumption) ?_
                rotate_left
                · intro v hSw
                  try dsimp only at hSw
                  go_simp
                  with_reducible rfl
                try simp only [Act.put, List.setIfInBounds_toArray, List.set_cons_zero, List.set_cons_succ]
                refine wpAnyH_take (i := 1) (oi := { dst := some 84, op := Op.fieldAddr 39 (Operand.tmp 12) 1, type := 0, pos := "law.go:183", after := #[], guard := none }) (v := ?_) rfl (by kernel_rfl) (by kernel_rfl) (by kernel_rfl) (fun _ _ _ h => h) (Or.inl ⟨by rfl, ?_⟩) (by assumption) ?_
                rotate_left
                · intro v hSw
                  try dsimp only at hSw
                  go_simp
                  with_reducible rfl
                try simp only [Act.put, List.setIfInBounds_toArray, List.set_cons_zero, List.set_cons_succ]
                refine wpAnyH_take (i := 2) (oi := { dst := some 85, op := Op.load 3 (Operand.tmp 84), type := 3, pos := "law.go:183", after := #[{ on := 1, ground := Ground.data }], guard := none }) (v := ?_) rfl (by kernel_rfl) (by kernel_rfl) (by kernel_rfl) (fun _ _ _ h => h) (Or.inl ⟨by rfl, ?_⟩) (by assumption) ?_
                rotate_left
                · intro v hSw
                  try dsimp only at hSw
                  go_simp
                  with_reducible rfl
                try simp only [Act.put, List.setIfInBounds_toArray, List.set_cons_zero, List.set_cons_succ]
                refine wpAnyH_take (i := 3) (oi := { dst := some 86, op := Op.load 39 (Operand.tmp 12), type := 39, pos := "law.go:183", after := #[], guard := none }) (v := ?_) rfl (by kernel_rfl) (by kernel_rfl) (by kernel_rfl) (fun _ _ _ h => h) (Or.inl ⟨by rfl, ?_⟩) (by assumption) ?_
                rotate_left
                · intro v hSw
                  try dsimp only at hSw
                  go_simp
                  with_reducible rfl
                try simp only [Act.put, List.setIfInBounds_toArray, List.set_cons_zero, List.set_cons_succ]
                refine wpAnyH_ready (rs := [4]) (by kernel_rfl) (by simp) ?_
                refine AllReadyH.cons (o := { dst := some 87, op := Op.call { callee := Callee.value (Operand.func 26), args := #[Operand.tmp 86], argTypes := #[39] }, type := 47, pos := "law.go:183", after := #[{ on := 3, ground := Ground.data }], guard := none }) rfl (fun K hK => ?_) AllReadyH.nil
                go_simp
                refine (data_any _ _ _ x.c x.short _).mono ?_
                rintro e y1 ⟨AD1, nD1, rfl, hnb1, hkd1⟩
                have HNB1 := Lib.hid hnb1
                have HKD1 := Lib.hid hkd1
                have HBX1 := Lib.hid (Box.kp (S := fun _ => False) HBXa.out.drew hkd1 (fun h => h))
                clear hnb1 hkd1
                go_wp2_with fail
                refine hK.out _ _ (act_cells HBX1.out) (fun hHeld4 => ?_)
                clear hK K
                try simp only [Act.put, List.setIfInBounds_toArray, List.set_cons_zero, List.set_cons_succ]
                refine wpAnyH_ready (rs := [5]) (by kernel_rfl) (by simp) ?_
                refine AllReadyH.cons (o := { dst := some 88, op := Op.call { callee := Callee.value (Operand.func 18), args := #[Operand.tmp 83, Operand.tmp 85, Operand.tmp 87], argTypes := #[25, 3, 47] }, type := 26, pos := "law.go:183", after := #[{ on := 0, ground := Ground.data }, { on := 2, ground := Ground.data }, { on := 4, ground := Ground.data }, { on := 4, ground := Ground.chain }], guard := none }) rfl (fun K hK => ?_) AllReadyH.nil
                go_simp
                have hwr := write_any (both_new (B := w.heap.size) (Nat.le_trans Q1.out.size HKD1.out.size)) (D1.out.still (((Kp.refl _ W1).drew).trans HKD1.out)).both x.n AD1 (dataL x.c x.short) nD1 HNB1.out.rd HNB1.out.off (by omega)
                rw [HE.out] at hwr
                refine hwr.mono ?_
                clear hwr
                rintro e y2 ⟨rfl, h5, k5⟩
                have HBX2 := Lib.hid (HBX1.out.dt k5 ⟨by decide, by decide, by decide⟩)
                have L2 := Lib.hid ((L1.out.still (((Kp.refl _ W1).drew).trans HKD1.out)).dt k5)
                have D2 := Lib.hid h5.one
                have Q2 := Lib.hid ((Q1.out.drew.trans HKD1.out.of_false).trans k5.one')
                clear h5 k5
                go_wp2_with fail
                refine hK.out _ _ (act_cells HBX2.out) (fun hHeld5 => ?_)
                clear hK K
                try simp only [Act.put, List.setIfInBounds_toArray, List.set_cons_zero, List.set_cons_succ]
                refine wpAnyH_take (i := 6) (oi := { dst := some 14, op := Op.assign (Operand.tmp 88), type := 26, pos := "law.go:183", after := #[{ on := 5, ground := Ground.data }, { on := 5, ground := Ground.chain }, { on := 0, ground := Ground.phase }, { on := 1, ground := Ground.phase }, { on := 2, ground := Ground.phase }, { on := 3, ground := Ground.phase }, { on := 4, ground := Ground.phase }, { on := 5, ground := Ground.phase }], guard := none }) (v := ?_) rfl (by kernel_rfl) (by kernel_rfl) (by kernel_rfl) (fun _ _ _ h => h) (Or.inl ⟨by rfl, ?_⟩) (by assumption) ?_
                rotate_left
                · intro v hSw
                  try dsimp only at hSw
                  go_simp
                  with_reducible rfl
                try simp only [Act.put, List.setIfInBounds_toArray, List.set_cons_zero, List.set_cons_succ]
                refine wpAnyH_done (by kernel_rfl) ?_ _
                go_wp2_with fail
                go_meet
                exact ⟨rfl, mid_alike L2.out D2.out KII.out KNN.out rfl rfl id HN.out hw HFW.out Q2.out⟩
              by_cases ho : d.out = true
              · as_aux_lemma =>
                have hE : d.writeS x.n (dataL x.c x.short) = (d.lose d.keep, 4) := by
                  unfold Dm.writeS
                  rw [hp, hsl, ho]
                  rfl
                have HBXa := Lib.hid hBa
                have HP := Lib.hid hp
                clear hBa
                clear hp hsl ho
                have HE := Lib.hid hE
                clear hE
                go_wp2_with fail
                refine wp_region_held_drew (S := fun v => v.cell? ⟨ga, 0, none⟩ = some (.int .u8 x.d) ∧ v.cell? ⟨ga, 1, none⟩ = some (.int .i64 x.n) ∧ v.cell? ⟨ga, 2, none⟩ = some (.string ⟨x.keep.toArray⟩) ∧ v.cell? ⟨ga, 3, none⟩ = some (.int .u8 x.c.toNat) ∧ v.cell? ⟨ga, 4, none⟩ = some (.bool x.short)) (by kernel_rfl) (act_cells HBXa.out.drew) (fun hHeld => ?_)
                refine wpAnyH_take (i := 0) (oi := { dst := some 83, op := Op.move (Operand.tmp 6), type := 25, pos := "law.go:183", after := #[], guard := none }) (v := ?_) rfl (by kernel_rfl) (by kernel_rfl) (by kernel_rfl) (fun _ _ _ h => h) (Or.inl ⟨by rfl, ?_⟩) (by assumption) ?_
                rotate_left
                · intro v hSw
                  try dsimp only at hSw
                  go_simp
                  with_reducible rfl
                try simp only [Act.put, List.setIfInBounds_toArray, List.set_cons_zero, List.set_cons_succ]
                refine wpAnyH_take (i := 1) (oi := { dst := some 84, op := Op.fieldAddr 39 (Operand.tmp 12) 1, type := 0, pos := "law.go:183", after := #[], guard := none }) (v := ?_) rfl (by kernel_rfl) (by kernel_rfl) (by kernel_rfl) (fun _ _ _ h => h) (Or.inl ⟨by rfl, ?_⟩) (by assumption) ?_
                rotate_left
                · intro v hSw
                  try dsimp only at hSw
                  go_simp
                  with_reducible rfl
                try simp only [Act.put, List.setIfInBounds_toArray, List.set_cons_zero, List.set_cons_succ]
                refine wpAnyH_take (i := 2) (oi := { dst := some 85, op := Op.load 3 (Operand.tmp 84), type := 3, pos := "law.go:183", after := #[{ on := 1, ground := Ground.data }], guard := none }) (v := ?_) rfl (by kernel_rfl) (by kernel_rfl) (by kernel_rfl) (fun _ _ _ h => h) (Or.inl ⟨by rfl, ?_⟩) (by assumption) ?_
                rotate_left
                · intro v hSw
                  try dsimp only at hSw
                  go_simp
                  with_reducible rfl
                try simp only [Act.put, List.setIfInBounds_toArray, List.set_cons_zero, List.set_cons_succ]
                refine wpAnyH_take (i := 3) (oi := { dst := some 86, op := Op.load 39 (Operand.tmp 12), type := 39, pos := "law.go:183", after := #[], guard := none }) (v := ?_) rfl (by kernel_rfl) (by kernel_rfl) (by kernel_rfl) (fun _ _ _ h => h) (Or.inl ⟨by rfl, ?_⟩) (by assumption) ?_
                rotate_left
                · intro v hSw
                  try dsimp only at hSw
                  go_simp
                  with_reducible rfl
                try simp only [Act.put, List.setIfInBounds_toArray, List.set_cons_zero, List.set_cons_succ]
                refine wpAnyH_ready (rs := [4]) (by kernel_rfl) (by simp) ?_
                refine AllReadyH.cons (o := { dst := some 87, op := Op.call { callee := Callee.value (Operand.func 26), args := #[Operand.tmp 86], argTypes := #[39] }, type := 47, pos := "law.go:183", after := #[{ on := 3, ground := Ground.data }], guard := none }) rfl (fun K hK => ?_) AllReadyH.nil
                go_simp
                refine (data_any _ _ _ x.c x.short _).mono ?_
                rintro e y1 ⟨AD1, nD1, rfl, hnb1, hkd1⟩
                have HNB1 := Lib.hid hnb1
                have HKD1 := Lib.hid hkd1
                have HBX1 := Lib.hid (Box.kp (S := fun _ => False) HBXa.out.drew hkd1 (fun h => h))
                clear hnb1 hkd1
                go_wp2_with fail
                refine hK.out _ _ (act_cells HBX1.out) (fun hHeld4 => ?_)
                clear hK K
                try simp only [Act.put, List.setIfInBounds_toArray, List.set_cons_zero, List.set_cons_succ]
                refine wpAnyH_ready (rs := [5]) (by kernel_rfl) (by simp) ?_
                refine AllReadyH.cons (o := { dst := some 88, op := Op.call { callee := Callee.value (Operand.func 18), args := #[Operand.tmp 83, Operand.tmp 85, Operand.tmp 87], argTypes := #[25, 3, 47] }, type := 26, pos := "law.go:183", after := #[{ on := 0, ground := Ground.data }, { on := 2, ground := Ground.data }, { on := 4, ground := Ground.data }, { on := 4, ground := Ground.chain }], guard := none }) rfl (fun K hK => ?_) AllReadyH.nil
                go_simp
                have hwr := write_any (both_new (B := w.heap.size) (Nat.le_trans Q1.out.size HKD1.out.size)) (D1.out.still (((Kp.refl _ W1).drew).trans HKD1.out)).both x.n AD1 (dataL x.c x.short) nD1 HNB1.out.rd HNB1.out.off (by omega)
                rw [HE.out] at hwr
                refine hwr.mono ?_
                clear hwr
                rintro e y2 ⟨rfl, h5, k5⟩
                have HBX2 := Lib.hid (HBX1.out.dt k5 ⟨by decide, by decide, by decide⟩)
                have L2 := Lib.hid ((L1.out.still (((Kp.refl _ W1).drew).trans HKD1.out)).dt k5)
                have D2 := Lib.hid h5.one
                have Q2 := Lib.hid ((Q1.out.drew.trans HKD1.out.of_false).trans k5.one')
                clear h5 k5
                go_wp2_with fail
                refine hK.out _ _ (act_cells HBX2.out) (fun hHeld5 => ?_)
                clear hK K
                try simp only [Act.put, List.setIfInBounds_toArray, List.set_cons_zero, List.set_cons_succ]
                refine wpAnyH_take (i := 6) (oi := { dst := some 14, op := Op.assign (Operand.tmp 88), type := 26, pos := "law.go:183", after := #[{ on := 5, ground := Ground.data }, { on := 5, ground := Ground.chain }, { on := 0, ground := Ground.phase }, { on := 1, ground := Ground.phase }, { on := 2, ground := Ground.phase }, { on := 3, ground := Ground.phase }, { on := 4, ground := Ground.phase }, { on := 5, ground := Ground.phase }], guard := none }) (v := ?_) rfl (by kernel_rfl) (by kernel_rfl) (by kernel_rfl) (fun _ _ _ h => h) (Or.inl ⟨by rfl, ?_⟩) (by assumption) ?_
                rotate_left
                · intro v hSw
                  try dsimp only at hSw
                  go_simp
                  with_reducible rfl
                try simp only [Act.put, List.setIfInBounds_toArray, List.set_cons_zero, List.set_cons_succ]
                refine wpAnyH_done (by kernel_rfl) ?_ _
                go_wp2_with fail
                go_meet
                exact ⟨rfl, mid_lose D1.out.ok d.keep L2.out D2.out KII.out HP.out HN.out HFW.out Q2.out⟩
              as_aux_lemma =>
              obtain ⟨hs, hlD⟩ : secB d x.n = true ∧ ((dataL x.c x.short).length == 512) = true := by simpa using hsl
              obtain ⟨hs0, hs1⟩ : 0 ≤ x.n ∧ x.n < d.on.length := by simpa [secB] using hs
              obtain ⟨a, ha⟩ : ∃ a : Nat, x.n = a := ⟨x.n.toNat, by omega⟩
              have had : a < d.on.length := by omega
              have han : a < n := by rw [← HN.out]; exact had
              have hE : d.writeS (a : Int) (dataL x.c x.short) = (d.act.push a (dataL x.c x.short), 0) := by
                unfold Dm.writeS
                rw [← ha, hp, hsl, Bool.eq_false_iff.2 ho, ha]
                rfl
              rw [ha] at hBa
              have hkp := KII.out.push KNN.out a (dataL x.c x.short) had hp
              have HKP := Lib.hid hkp
              have hnl := KII.out.nlen.trans HN.out
              have hml := KII.out.mlen.trans HN.out
              have HNL := Lib.hid hnl
              have HML := Lib.hid hml
              have hain : (a : Int) < (n : Int) := by omega
              have hpw : d.power = true := hp
              have HBXa := Lib.hid hBa
              have HE := Lib.hid hE
              have HPW := Lib.hid hpw
              clear hBa hp hsl ho hs hlD hs0 hs1 ha hE hkp hnl hml hpw hx1 HXO
              go_wp2_with fail
              refine wp_region_held_drew (S := fun v => v.cell? ⟨ga, 0, none⟩ = some (.int .u8 x.d) ∧ v.cell? ⟨ga, 1, none⟩ = some (.int .i64 (a : Int)) ∧ v.cell? ⟨ga, 2, none⟩ = some (.string ⟨x.keep.toArray⟩) ∧ v.cell? ⟨ga, 3, none⟩ = some (.int .u8 x.c.toNat) ∧ v.cell? ⟨ga, 4, none⟩ = some (.bool x.short)) (by kernel_rfl) (act_cells HBXa.out.drew) (fun hHeld => ?_)
              refine wpAnyH_take (i := 0) (oi := { dst := some 83, op := Op.move (Operand.tmp 6), type := 25, pos := "law.go:183", after := #[], guard := none }) (v := ?_) rfl (by kernel_rfl) (by kernel_rfl) (by kernel_rfl) (fun _ _ _ h => h) (Or.inl ⟨by rfl, ?_⟩) (by assumption) ?_
              rotate_left
              · intro v hSw
                try dsimp only at hSw
                go_simp
                with_reducible rfl
              try simp only [Act.put, List.setIfInBounds_toArray, List.set_cons_zero, List.set_cons_succ]
              refine wpAnyH_take (i := 1) (oi := { dst := some 84, op := Op.fieldAddr 39 (Operand.tmp 12) 1, type := 0, pos := "law.go:183", after := #[], guard := none }) (v := ?_) rfl (by kernel_rfl) (by kernel_rfl) (by kernel_rfl) (fun _ _ _ h => h) (Or.inl ⟨by rfl, ?_⟩) (by assumption) ?_
              rotate_left
              · intro v hSw
                try dsimp only at hSw
                go_simp
                with_reducible rfl
              try simp only [Act.put, List.setIfInBounds_toArray, List.set_cons_zero, List.set_cons_succ]
              refine wpAnyH_take (i := 2) (oi := { dst := some 85, op := Op.load 3 (Operand.tmp 84), type := 3, pos := "law.go:183", after := #[{ on := 1, ground := Ground.data }], guard := none }) (v := ?_) rfl (by kernel_rfl) (by kernel_rfl) (by kernel_rfl) (fun _ _ _ h => h) (Or.inl ⟨by rfl, ?_⟩) (by assumption) ?_
              rotate_left
              · intro v hSw
                try dsimp only at hSw
                go_simp
                with_reducible rfl
              try simp only [Act.put, List.setIfInBounds_toArray, List.set_cons_zero, List.set_cons_succ]
              refine wpAnyH_take (i := 3) (oi := { dst := some 86, op := Op.load 39 (Operand.tmp 12), type := 39, pos := "law.go:183", after := #[], guard := none }) (v := ?_) rfl (by kernel_rfl) (by kernel_rfl) (by kernel_rfl) (fun _ _ _ h => h) (Or.inl ⟨by rfl, ?_⟩) (by assumption) ?_
              rotate_left
              · intro v hSw
                try dsimp only at hSw
                go_simp
                with_reducible rfl
              try simp only [Act.put, List.setIfInBounds_toArray, List.set_cons_zero, List.set_cons_succ]
              refine wpAnyH_ready (rs := [4]) (by kernel_rfl) (by simp) ?_
              refine AllReadyH.cons (o := { dst := some 87, op := Op.call { callee := Callee.value (Operand.func 26), args := #[Operand.tmp 86], argTypes := #[39] }, type := 47, pos := "law.go:183", after := #[{ on := 3, ground := Ground.data }], guard := none }) rfl (fun K hK => ?_) AllReadyH.nil
              go_simp
              refine (data_any _ _ _ x.c x.short _).mono ?_
              rintro e y1 ⟨AD1, nD1, rfl, hnb1, hkd1⟩
              have HNB1 := Lib.hid hnb1
              have HKD1 := Lib.hid hkd1
              have HBX1 := Lib.hid (Box.kp (S := fun _ => False) HBXa.out.drew hkd1 (fun h => h))
              clear hnb1 hkd1
              go_wp2_with fail
              refine hK.out _ _ (act_cells HBX1.out) (fun hHeld4 => ?_)
              clear hK K
              try simp only [Act.put, List.setIfInBounds_toArray, List.set_cons_zero, List.set_cons_succ]
              refine wpAnyH_ready (rs := [5]) (by kernel_rfl) (by simp) ?_
              refine AllReadyH.cons (o := { dst := some 88, op := Op.call { callee := Callee.value (Operand.func 18), args := #[Operand.tmp 83, Operand.tmp 85, Operand.tmp 87], argTypes := #[25, 3, 47] }, type := 26, pos := "law.go:183", after := #[{ on := 0, ground := Ground.data }, { on := 2, ground := Ground.data }, { on := 4, ground := Ground.data }, { on := 4, ground := Ground.chain }], guard := none }) rfl (fun K hK => ?_) AllReadyH.nil
              go_simp
              have hwr := write_any (both_new (B := w.heap.size) (Nat.le_trans Q1.out.size HKD1.out.size)) (D1.out.still (((Kp.refl _ W1).drew).trans HKD1.out)).both (a : Int) AD1 (dataL x.c x.short) nD1 HNB1.out.rd HNB1.out.off (by omega)
              rw [HE.out] at hwr
              refine hwr.mono ?_
              clear hwr
              rintro e y2 ⟨rfl, h5, k5⟩
              have HBX2 := Lib.hid (HBX1.out.dt k5 ⟨by decide, by decide, by decide⟩)
              have L2 := Lib.hid ((L1.out.still (((Kp.refl _ W1).drew).trans HKD1.out)).dt k5)
              have D2 := Lib.hid h5.one
              have Q2 := Lib.hid ((Q1.out.drew.trans HKD1.out.of_false).trans k5.one')
              clear h5 k5
              go_wp2_with fail
              refine hK.out _ _ (act_cells HBX2.out) (fun hHeld5 => ?_)
              clear hK K
              try simp only [Act.put, List.setIfInBounds_toArray, List.set_cons_zero, List.set_cons_succ]
              refine wpAnyH_take (i := 6) (oi := { dst := some 14, op := Op.assign (Operand.tmp 88), type := 26, pos := "law.go:183", after := #[{ on := 5, ground := Ground.data }, { on := 5, ground := Ground.chain }, { on := 0, ground := Ground.phase }, { on := 1, ground := Ground.phase }, { on := 2, ground := Ground.phase }, { on := 3, ground := Ground.phase }, { on := 4, ground := Ground.phase }, { on := 5, ground := Ground.phase }], guard := none }) (v := ?_) rfl (by kernel_rfl) (by kernel_rfl) (by kernel_rfl) (fun _ _ _ h => h) (Or.inl ⟨by rfl, ?_⟩) (by assumption) ?_
              rotate_left
              · intro v hSw
                try dsimp only at hSw
                go_simp
                with_reducible rfl
              try simp only [Act.put, List.setIfInBounds_toArray, List.set_cons_zero, List.set_cons_succ]
              refine wpAnyH_done (by kernel_rfl) ?_ _
              go_wp2_with fail
              refine wp_region_held_drew (S := fun v => v.cell? ⟨ga, 0, none⟩ = some (.int .u8 x.d) ∧ v.cell? ⟨ga, 1, none⟩ = some (.int .i64 (a : Int)) ∧ v.cell? ⟨ga, 2, none⟩ = some (.string ⟨x.keep.toArray⟩) ∧ v.cell? ⟨ga, 3, none⟩ = some (.int .u8 x.c.toNat) ∧ v.cell? ⟨ga, 4, none⟩ = some (.bool x.short)) (by kernel_rfl) (act_cells HBX2.out.drew) (fun hHeld => ?_)
              refine wpAnyH_take (i := 0) (oi := { dst := some 91, op := Op.move (Operand.tmp 9), type := 29, pos := "law.go:185", after := #[], guard := none }) (v := ?_) rfl (by kernel_rfl) (by kernel_rfl) (by kernel_rfl) (fun _ _ _ h => h) (Or.inl ⟨by rfl, ?_⟩) (by assumption) ?_
              rotate_left
              · intro v hSw
                try dsimp only at hSw
                go_simp
                with_reducible rfl
              try simp only [Act.put, List.setIfInBounds_toArray, List.set_cons_zero, List.set_cons_succ]
              refine wpAnyH_take (i := 1) (oi := { dst := some 92, op := Op.fieldAddr 39 (Operand.tmp 12) 1, type := 0, pos := "law.go:185", after := #[], guard := none }) (v := ?_) rfl (by kernel_rfl) (by kernel_rfl) (by kernel_rfl) (fun _ _ _ h => h) (Or.inl ⟨by rfl, ?_⟩) (by assumption) ?_
              rotate_left
              · intro v hSw
                try dsimp only at hSw
                go_simp
                with_reducible rfl
              try simp only [Act.put, List.setIfInBounds_toArray, List.set_cons_zero, List.set_cons_succ]
              refine wpAnyH_take (i := 2) (oi := { dst := some 93, op := Op.load 3 (Operand.tmp 92), type := 3, pos := "law.go:185", after := #[{ on := 1, ground := Ground.data }], guard := none }) (v := ?_) rfl (by kernel_rfl) (by kernel_rfl) (by kernel_rfl) (fun _ _ _ h => h) (Or.inl ⟨by rfl, ?_⟩) (by assumption) ?_
              rotate_left
              · intro v hSw
                try dsimp only at hSw
                go_simp
                with_reducible rfl
              try simp only [Act.put, List.setIfInBounds_toArray, List.set_cons_zero, List.set_cons_succ]
              refine wpAnyH_take (i := 3) (oi := { dst := some 94, op := Op.load 39 (Operand.tmp 12), type := 39, pos := "law.go:185", after := #[], guard := none }) (v := ?_) rfl (by kernel_rfl) (by kernel_rfl) (by kernel_rfl) (fun _ _ _ h => h) (Or.inl ⟨by rfl, ?_⟩) (by assumption) ?_
              rotate_left
              · intro v hSw
                try dsimp only at hSw
                go_simp
                with_reducible rfl
              try simp only [Act.put, List.setIfInBounds_toArray, List.set_cons_zero, List.set_cons_succ]
              refine wpAnyH_ready (rs := [4]) (by kernel_rfl) (by simp) ?_
              refine AllReadyH.cons (o := { dst := some 95, op := Op.call { callee := Callee.value (Operand.func 26), args := #[Operand.tmp 94], argTypes := #[39] }, type := 47, pos := "law.go:185", after := #[{ on := 3, ground := Ground.data }], guard := none }) rfl (fun K hK => ?_) AllReadyH.nil
              go_simp
              refine (data_any _ _ _ x.c x.short _).mono ?_
              rintro e y3 ⟨AD3, nD3, rfl, hnb3, hkd3⟩
              have HNB3 := Lib.hid hnb3
              have HKD3 := Lib.hid hkd3
              have HBX3 := Lib.hid (Box.kp (S := fun _ => False) HBX2.out.drew hkd3 (fun h => h))
              clear hnb3 hkd3
              go_wp2_with fail
              refine hK.out _ _ (act_cells HBX3.out) (fun hHeld4 => ?_)
              clear hK K
              try simp only [Act.put, List.setIfInBounds_toArray, List.set_cons_zero, List.set_cons_succ]
              refine wpAnyH_ready (rs := [5]) (by kernel_rfl) (by simp) ?_
              refine AllReadyH.cons (o := { dst := some 96, op := Op.convert 47 9 (Operand.tmp 95), type := 9, pos := "law.go:185", after := #[{ on := 4, ground := Ground.data }], guard := none }) rfl (fun K hK => ?_) AllReadyH.nil
              have ht := HNB3.out.rd.text (P := Try.prog) 47 9 5 nD3 Try.underlying47 Try.underlying5 Try.underlying9
              go_simp
              clear ht
              refine hK.out _ _ (act_cells HBX3.out) (fun hHeld5 => ?_)
              clear hK K
              try simp only [Act.put, List.setIfInBounds_toArray, List.set_cons_zero, List.set_cons_succ]
              refine wpAnyH_take (i := 6) (oi := { dst := some 97, op := Op.indexAddr 29 (Operand.tmp 91) (Operand.tmp 93), type := 0, pos := "law.go:185", after := #[{ on := 0, ground := Ground.data }, { on := 2, ground := Ground.data }, { on := 0, ground := Ground.phase }, { on := 1, ground := Ground.phase }, { on := 2, ground := Ground.phase }, { on := 3, ground := Ground.phase }, { on := 4, ground := Ground.phase }, { on := 5, ground := Ground.phase }], guard := none }) (v := ?_) rfl (by kernel_rfl) (by kernel_rfl) (by kernel_rfl) (fun _ _ _ h => h) (Or.inl ⟨by rfl, ?_⟩) (by assumption) ?_
              rotate_left
              · intro v hSw
                try dsimp only at hSw
                go_simp
                with_reducible rfl
              try simp only [Act.put, List.setIfInBounds_toArray, List.set_cons_zero, List.set_cons_succ]
              refine wpAnyH_ready (rs := [7]) (by kernel_rfl) (by simp) ?_
              refine AllReadyH.cons (o := { dst := none, op := Op.store 9 (Operand.tmp 97) (Operand.tmp 96), type := 0, pos := "law.go:185", after := #[{ on := 6, ground := Ground.data }, { on := 5, ground := Ground.data }, { on := 4, ground := Ground.chain }, { on := 0, ground := Ground.phase }, { on := 1, ground := Ground.phase }, { on := 2, ground := Ground.phase }, { on := 3, ground := Ground.phase }, { on := 4, ground := Ground.phase }, { on := 5, ground := Ground.phase }], guard := none }) rfl (fun K hK => ?_) AllReadyH.nil
              have L3 := Lib.hid (L2.out.still (((Kp.refl _ y2).drew).trans HKD3.out))
              have D3 := Lib.hid (D2.out.still (((Kp.refl _ y2).drew).trans HKD3.out))
              have Q3 := Lib.hid (Q2.out.drew.trans HKD3.out.of_false)
              have e7 := L3.out.now_cell a (by rw [HNL.out]; exact han)
              have f7 := L3.out.nb.free a
              have L4 := Lib.hid (L3.out.setNow a (dataL x.c x.short))
              have D4 := Lib.hid (D3.out.off_cell L3.out.nb ⟨by decide, by decide, by decide⟩ a (.string ⟨(dataL x.c x.short).toArray⟩))
              have Q4 := Lib.hid (Q3.out.setCell (p := ⟨gn, a, none⟩) (.inl L3.out.bn) (.string ⟨(dataL x.c x.short).toArray⟩))
              have HBX4 := Lib.hid (HBX3.out.kp (Kp.one y3 gn a (.string ⟨(dataL x.c x.short).toArray⟩)) (fun e => Box.type_ne HBX3.out L3.out.nb (by decide) e))
              go_simp
              clear e7 f7
              refine hK.out _ _ (act_cells HBX4.out) (fun hHeld7 => ?_)
              clear hK K
              try simp only [Act.put, List.setIfInBounds_toArray, List.set_cons_zero, List.set_cons_succ]
              refine wpAnyH_done (by kernel_rfl) ?_ _
              have e9 := L4.out.now_cell a (by rw [List.length_set, HNL.out]; exact han)
              rw [getD_set_same _ _ _ _ (by rw [HNL.out]; exact han)] at e9
              generalize hy4 : y3.setCell ⟨gn, a, none⟩ (.string ⟨(dataL x.c x.short).toArray⟩) = y4 at *
              clear hy4
              obtain ⟨Ar, cr, mv, ermay, hro, hrn, hry, hyb⟩ := L4.out.may_cell2 a (by rw [HML.out]; exact han)
              have frmay := hyb.free a
              have hrlb := HFW.out.get a
              obtain ⟨rl, hrl⟩ : ∃ rl, (may.getD a []).length = rl := ⟨_, rfl⟩
              rw [hrl] at ermay hro hrn hry hrlb
              have HROW := Lib.hid hrl
              have HRO := Lib.hid hro
              have HRN := Lib.hid hrn
              have HRY := Lib.hid hry
              have HYB := Lib.hid hyb
              have hrg : (Value.slice Ar rl cr).ownBlock ≠ some ga := fun e => by
                obtain ⟨cur, hc2⟩ := own_block hro e
                exact Box.type_ne (t := 9) hc2 HBX4.out (by decide) rfl
              have HRG := Lib.hid hrg
              have hgy : ga ≠ gy := HBX4.out.type_ne hyb (by decide)
              have HGY := Lib.hid hgy
              obtain ⟨iS, s1, s2, s3, s4⟩ := strInfo
              have e10 : (y4.drew.alloc (.cells #[.string ⟨(dataL x.c x.short).toArray⟩] 9)).cell? ⟨gn, a, none⟩ = some (.string ⟨(dataL x.c x.short).toArray⟩) := (World.cell?_alloc_lt y4.drew _ ⟨gn, a, none⟩ L4.out.lt.1).trans e9
              have era : (y4.alloc (.cells #[.string ⟨(dataL x.c x.short).toArray⟩] 9)).cell? ⟨gy, a, none⟩ = some (.slice Ar rl cr) := (World.cell?_alloc_lt y4 _ ⟨gy, a, none⟩ L4.out.lt.2).trans ermay
              have HBX5 := Lib.hid (HBX4.out.drew.alloc (.cells #[.string ⟨(dataL x.c x.short).toArray⟩] 9))
              clear hro hrn hry hyb hrg hgy hrl
              go_wp2_with fail
              refine wp_region_held_drew (S := fun v => ((v.cell? ⟨ga, 0, none⟩ = some (.int .u8 x.d) ∧ v.cell? ⟨ga, 1, none⟩ = some (.int .i64 (a : Int)) ∧ v.cell? ⟨ga, 2, none⟩ = some (.string ⟨x.keep.toArray⟩) ∧ v.cell? ⟨ga, 3, none⟩ = some (.int .u8 x.c.toNat) ∧ v.cell? ⟨ga, 4, none⟩ = some (.bool x.short)) ∧ v.cell? ⟨gn, a, none⟩ = some (.string ⟨(dataL x.c x.short).toArray⟩))) (by kernel_rfl) ⟨act_cells HBX4.out.drew, e9⟩ (fun hHeld => ?_)
              refine wpAnyH_take (i := 0) (oi := { dst := some 98, op := Op.move (Operand.tmp 8), type := 55, pos := "law.go:186", after := #[], guard := none }) (v := ?_) rfl (by kernel_rfl) (by kernel_rfl) (by kernel_rfl) (fun _ _ _ h => h) (Or.inl ⟨by rfl, ?_⟩) (by assumption) ?_
              rotate_left
              · intro v hSw
                try dsimp only at hSw
                go_simp
                with_reducible rfl
              try simp only [Act.put, List.setIfInBounds_toArray, List.set_cons_zero, List.set_cons_succ]
              refine wpAnyH_take (i := 1) (oi := { dst := some 99, op := Op.fieldAddr 39 (Operand.tmp 12) 1, type := 0, pos := "law.go:186", after := #[], guard := none }) (v := ?_) rfl (by kernel_rfl) (by kernel_rfl) (by kernel_rfl) (fun _ _ _ h => h) (Or.inl ⟨by rfl, ?_⟩) (by assumption) ?_
              rotate_left
              · intro v hSw
                try dsimp only at hSw
                go_simp
                with_reducible rfl
              try simp only [Act.put, List.setIfInBounds_toArray, List.set_cons_zero, List.set_cons_succ]
              refine wpAnyH_take (i := 2) (oi := { dst := some 100, op := Op.load 3 (Operand.tmp 99), type := 3, pos := "law.go:186", after := #[{ on := 1, ground := Ground.data }], guard := none }) (v := ?_) rfl (by kernel_rfl) (by kernel_rfl) (by kernel_rfl) (fun _ _ _ h => h) (Or.inl ⟨by rfl, ?_⟩) (by assumption) ?_
              rotate_left
              · intro v hSw
                try dsimp only at hSw
                go_simp
                with_reducible rfl
              try simp only [Act.put, List.setIfInBounds_toArray, List.set_cons_zero, List.set_cons_succ]
              refine wpAnyH_take (i := 3) (oi := { dst := some 101, op := Op.move (Operand.tmp 8), type := 55, pos := "law.go:186", after := #[], guard := none }) (v := ?_) rfl (by kernel_rfl) (by kernel_rfl) (by kernel_rfl) (fun _ _ _ h => h) (Or.inl ⟨by rfl, ?_⟩) (by assumption) ?_
              rotate_left
              · intro v hSw
                try dsimp only at hSw
                go_simp
                with_reducible rfl
              try simp only [Act.put, List.setIfInBounds_toArray, List.set_cons_zero, List.set_cons_succ]
              refine wpAnyH_take (i := 4) (oi := { dst := some 102, op := Op.fieldAddr 39 (Operand.tmp 12) 1, type := 0, pos := "law.go:186", after := #[], guard := none }) (v := ?_) rfl (by kernel_rfl) (by kernel_rfl) (by kernel_rfl) (fun _ _ _ h => h) (Or.inl ⟨by rfl, ?_⟩) (by assumption) ?_
              rotate_left
              · intro v hSw
                try dsimp only at hSw
                go_simp
                with_reducible rfl
              try simp only [Act.put, List.setIfInBounds_toArray, List.set_cons_zero, List.set_cons_succ]
              refine wpAnyH_take (i := 5) (oi := { dst := some 103, op := Op.load 3 (Operand.tmp 102), type := 3, pos := "law.go:186", after := #[{ on := 4, ground := Ground.data }], guard := none }) (v := ?_) rfl (by kernel_rfl) (by kernel_rfl) (by kernel_rfl) (fun _ _ _ h => h) (Or.inl ⟨by rfl, ?_⟩) (by assumption) ?_
              rotate_left
              · intro v hSw
                try dsimp only at hSw
                go_simp
                with_reducible rfl
              try simp only [Act.put, List.setIfInBounds_toArray, List.set_cons_zero, List.set_cons_succ]
              refine wpAnyH_take (i := 6) (oi := { dst := some 104, op := Op.indexAddr 55 (Operand.tmp 101) (Operand.tmp 103), type := 0, pos := "law.go:186", after := #[{ on := 3, ground := Ground.data }, { on := 5, ground := Ground.data }], guard := none }) (v := ?_) rfl (by kernel_rfl) (by kernel_rfl) (by kernel_rfl) (fun _ _ _ h => h) (Or.inl ⟨by rfl, ?_⟩) (by assumption) ?_
              rotate_left
              · intro v hSw
                try dsimp only at hSw
                go_simp
                with_reducible rfl
              try simp only [Act.put, List.setIfInBounds_toArray, List.set_cons_zero, List.set_cons_succ]
              refine wpAnyH_take (i := 8) (oi := { dst := some 106, op := Op.move (Operand.tmp 9), type := 29, pos := "law.go:186", after := #[], guard := none }) (v := ?_) rfl (by kernel_rfl) (by kernel_rfl) (by kernel_rfl) (fun _ _ _ h => h) (Or.inl ⟨by rfl, ?_⟩) (by assumption) ?_
              rotate_left
              · intro v hSw
                try dsimp only at hSw
                go_simp
                with_reducible rfl
              try simp only [Act.put, List.setIfInBounds_toArray, List.set_cons_zero, List.set_cons_succ]
              refine wpAnyH_take (i := 9) (oi := { dst := some 107, op := Op.fieldAddr 39 (Operand.tmp 12) 1, type := 0, pos := "law.go:186", after := #[], guard := none }) (v := ?_) rfl (by kernel_rfl) (by kernel_rfl) (by kernel_rfl) (fun _ _ _ h => h) (Or.inl ⟨by rfl, ?_⟩) (by assumption) ?_
              rotate_left
              · intro v hSw
                try dsimp only at hSw
                go_simp
                with_reducible rfl
              try simp only [Act.put, List.setIfInBounds_toArray, List.set_cons_zero, List.set_cons_succ]
              refine wpAnyH_take (i := 10) (oi := { dst := some 108, op := Op.load 3 (Operand.tmp 107), type := 3, pos := "law.go:186", after := #[{ on := 9, ground := Ground.data }], guard := none }) (v := ?_) rfl (by kernel_rfl) (by kernel_rfl) (by kernel_rfl) (fun _ _ _ h => h) (Or.inl ⟨by rfl, ?_⟩) (by assumption) ?_
              rotate_left
              · intro v hSw
                try dsimp only at hSw
                go_simp
                with_reducible rfl
              try simp only [Act.put, List.setIfInBounds_toArray, List.set_cons_zero, List.set_cons_succ]
              refine wpAnyH_take (i := 11) (oi := { dst := some 109, op := Op.indexAddr 29 (Operand.tmp 106) (Operand.tmp 108), type := 0, pos := "law.go:186", after := #[{ on := 8, ground := Ground.data }, { on := 10, ground := Ground.data }], guard := none }) (v := ?_) rfl (by kernel_rfl) (by kernel_rfl) (by kernel_rfl) (fun _ _ _ h => h) (Or.inl ⟨by rfl, ?_⟩) (by assumption) ?_
              rotate_left
              · intro v hSw
                try dsimp only at hSw
                go_simp
                with_reducible rfl
              try simp only [Act.put, List.setIfInBounds_toArray, List.set_cons_zero, List.set_cons_succ]
              refine wpAnyH_take (i := 12) (oi := { dst := some 110, op := Op.load 9 (Operand.tmp 109), type := 9, pos := "law.go:186", after := #[{ on := 11, ground := Ground.data }], guard := none }) (v := ?_) rfl (by kernel_rfl) (by kernel_rfl) (by kernel_rfl) (fun _ _ _ h => h) (Or.inl ⟨by rfl, ?_⟩) (by assumption) ?_
              rotate_left
              · intro v hSw
                try dsimp only at hSw
                go_simp
                with_reducible rfl
              try simp only [Act.put, List.setIfInBounds_toArray, List.set_cons_zero, List.set_cons_succ]
              refine wpAnyH_ready (rs := [7, 13]) (by kernel_rfl) (by simp) ?_
              refine AllReadyH.cons (o := { dst := some 105, op := Op.load 29 (Operand.tmp 104), type := 29, pos := "law.go:186", after := #[{ on := 6, ground := Ground.data }], guard := none }) rfl (fun K hK => ?_) (AllReadyH.cons (o := { dst := some 111, op := Op.buildSlice 29 1 #[(0, Operand.tmp 110)], type := 29, pos := "law.go:186", after := #[{ on := 12, ground := Ground.data }], guard := none }) rfl (fun K hK => ?_) AllReadyH.nil)
              · go_simp
                refine hK.out _ _ ⟨act_cells HBX4.out.drew, e9⟩ (fun hHeld2 => ?_)
                clear hK K
                try simp only [Act.put, List.setIfInBounds_toArray, List.set_cons_zero, List.set_cons_succ]
                refine wpAnyH_ready (rs := [13]) (by kernel_rfl) (by simp) ?_
                refine AllReadyH.cons (o := { dst := some 111, op := Op.buildSlice 29 1 #[(0, Operand.tmp 110)], type := 29, pos := "law.go:186", after := #[{ on := 12, ground := Ground.data }], guard := none }) rfl (fun K hK => ?_) AllReadyH.nil
                go_simp
                refine hK.out _ _ ⟨act_cells HBX5.out, e10⟩ (fun hHeld13 => ?_)
                clear hK K
                try simp only [Act.put, List.setIfInBounds_toArray, List.set_cons_zero, List.set_cons_succ]
                refine wpAnyH_ready (rs := [14]) (by kernel_rfl) (by simp) ?_
                refine AllReadyH.cons (o := { dst := some 112, op := Op.call { callee := Callee.builtin Builtin.append, args := #[Operand.tmp 105, Operand.tmp 111], argTypes := #[29, 29] }, type := 29, pos := "law.go:186", after := #[{ on := 7, ground := Ground.data }, { on := 13, ground := Ground.data }], guard := none }) rfl (fun K hK => ?_) AllReadyH.nil
                refine step_append_lies _ rfl (.tmp 105) (.tmp 111) 29 rfl w.heap.size 9 iS (.string ⟨#[]⟩) 1 16 Try.underlying29 s1 s2 s3 s4 rfl (by decide) _ _ _ rfl (HRO.out.drew.alloc _) ⟨y4.heap.size, 0, none⟩ 1 1 [.string ⟨(dataL x.c x.short).toArray⟩] rfl rfl (World.news_of_block (w := y4.drew.alloc (.cells #[.string ⟨(dataL x.c x.short).toArray⟩] 9)) (heap_alloc_new y4.drew _)) (by simp [Value.oneCell']) (by decide) (by simp only [maxLen]; omega) (by omega) (by have := Q4.out.size; simp; omega) (y4.heap.size + 1) (by simp) ?_
                intro g' cap' w5 hown5 hg5 hat5 hlt5
                have HG5 := Lib.hid hg5
                have HO5 := Lib.hid hown5
                have HA5 := Lib.hid hat5
                have kg : Kp (fun q => (Value.slice Ar rl cr).ownBlock = some q) y4 w5 := (((Kp.refl _ y4).drew.alloc (.cells #[.string ⟨(dataL x.c x.short).toArray⟩] 9))).grown hg5 (fun q e => .inr e)
                have e11 := (kg.cell (p := ⟨gn, a, none⟩) L4.out.lt.1 HRN.out).trans e9
                have HBX6 := Lib.hid (HBX4.out.kp kg HRG.out)
                have HYB5 := Lib.hid (HYB.out.kp kg HRY.out)
                have e12 := (kg.cell (p := ⟨gy, a, none⟩) L4.out.lt.2 HRY.out).trans ermay
                have f12 := (kg.frozen (p := ⟨gy, a, none⟩) L4.out.lt.2 HRY.out).trans frmay
                have Q5 := Lib.hid (Q4.out.trans (kg.mono fun q _ e => (HRO.out.lt q e).1))
                have D5 := Lib.hid (D4.out.kp_own kg HRO.out ⟨by decide, by decide, by decide⟩)
                clear hown5 hg5 hat5 hlt5 kg
                refine hK.out _ _ ⟨act_cells HBX6.out, e11⟩ (fun hHeld14 => ?_)
                clear hK K
                try simp only [Act.put, List.setIfInBounds_toArray, List.set_cons_zero, List.set_cons_succ]
                refine wpAnyH_take (i := 15) (oi := { dst := some 113, op := Op.indexAddr 55 (Operand.tmp 98) (Operand.tmp 100), type := 0, pos := "law.go:186", after := #[{ on := 0, ground := Ground.data }, { on := 2, ground := Ground.data }, { on := 0, ground := Ground.phase }, { on := 1, ground := Ground.phase }, { on := 2, ground := Ground.phase }, { on := 3, ground := Ground.phase }, { on := 4, ground := Ground.phase }, { on := 5, ground := Ground.phase }, { on := 6, ground := Ground.phase }, { on := 7, ground := Ground.phase }, { on := 8, ground := Ground.phase }, { on := 9, ground := Ground.phase }, { on := 10, ground := Ground.phase }, { on := 11, ground := Ground.phase }, { on := 12, ground := Ground.phase }, { on := 13, ground := Ground.phase }, { on := 14, ground := Ground.phase }], guard := none }) (v := ?_) rfl (by kernel_rfl) (by kernel_rfl) (by kernel_rfl) (fun _ _ _ h => h) (Or.inl ⟨by rfl, ?_⟩) (by assumption) ?_
                rotate_left
                · intro v hSw
                  try dsimp only at hSw
                  go_simp
                  with_reducible rfl
                try simp only [Act.put, List.setIfInBounds_toArray, List.set_cons_zero, List.set_cons_succ]
                refine wpAnyH_ready (rs := [16]) (by kernel_rfl) (by simp) ?_
                refine AllReadyH.cons (o := { dst := none, op := Op.store 29 (Operand.tmp 113) (Operand.tmp 112), type := 0, pos := "law.go:186", after := #[{ on := 15, ground := Ground.data }, { on := 14, ground := Ground.data }, { on := 14, ground := Ground.chain }, { on := 0, ground := Ground.phase }, { on := 1, ground := Ground.phase }, { on := 2, ground := Ground.phase }, { on := 3, ground := Ground.phase }, { on := 4, ground := Ground.phase }, { on := 5, ground := Ground.phase }, { on := 6, ground := Ground.phase }, { on := 7, ground := Ground.phase }, { on := 8, ground := Ground.phase }, { on := 9, ground := Ground.phase }, { on := 10, ground := Ground.phase }, { on := 11, ground := Ground.phase }, { on := 12, ground := Ground.phase }, { on := 13, ground := Ground.phase }, { on := 14, ground := Ground.phase }], guard := none }) rfl (fun K hK => ?_) AllReadyH.nil
                have L6 := Lib.hid (L4.out.app (v' := .slice (some ⟨g', 0, none⟩) (rl + 1) cap') a (by rw [HML.out]; exact han) (dataL x.c x.short) ermay (by rw [HROW.out]; exact HO5.out) HG5.out (fun q e => by
                  simp only [Value.ownBlock, Option.some.injEq] at e
                  rw [← e]
                  exact HA5.out))
                have D6 := Lib.hid (D5.out.off_cell HYB5.out ⟨by decide, by decide, by decide⟩ a (.slice (some ⟨g', 0, none⟩) (rl + 1) cap'))
                have Q6 := Lib.hid (Q5.out.setCell (p := ⟨gy, a, none⟩) (.inl L4.out.by_) (.slice (some ⟨g', 0, none⟩) (rl + 1) cap'))
                have HBX7 := Lib.hid (HBX6.out.kp (Kp.one w5 gy a (.slice (some ⟨g', 0, none⟩) (rl + 1) cap')) HGY.out)
                have e13 := ((Kp.one w5 gy a (.slice (some ⟨g', 0, none⟩) (rl + 1) cap')).cell (p := ⟨gn, a, none⟩) (World.block_lt_of_cell? w5 _ e11) L4.out.ny).trans e11
                go_simp
                refine hK.out _ _ ⟨act_cells HBX7.out, e13⟩ (fun hHeld16 => ?_)
                clear hK K
                try simp only [Act.put, List.setIfInBounds_toArray, List.set_cons_zero, List.set_cons_succ]
                refine wpAnyH_done (by kernel_rfl) ?_ _
                go_wp2_with fail
                go_meet
                exact ⟨rfl, d.act.push a (dataL x.c x.short), _, _, L6.out, D6.out, HKP.out.1, fun _ => HKP.out.2, HN.out, by simp [Dm.push, Dm.act]; omega, HFW.out.push a (dataL x.c x.short), Q6.out⟩
              · go_simp
                refine hK.out _ _ ⟨act_cells HBX5.out, e10⟩ (fun hHeld2 => ?_)
                clear hK K
                try simp only [Act.put, List.setIfInBounds_toArray, List.set_cons_zero, List.set_cons_succ]
                refine wpAnyH_ready (rs := [7]) (by kernel_rfl) (by simp) ?_
                refine AllReadyH.cons (o := { dst := some 105, op := Op.load 29 (Operand.tmp 104), type := 29, pos := "law.go:186", after := #[{ on := 6, ground := Ground.data }], guard := none }) rfl (fun K hK => ?_) AllReadyH.nil
                go_simp
                refine hK.out _ _ ⟨act_cells HBX5.out, e10⟩ (fun hHeld7 => ?_)
                clear hK K
                try simp only [Act.put, List.setIfInBounds_toArray, List.set_cons_zero, List.set_cons_succ]
                refine wpAnyH_ready (rs := [14]) (by kernel_rfl) (by simp) ?_
                refine AllReadyH.cons (o := { dst := some 112, op := Op.call { callee := Callee.builtin Builtin.append, args := #[Operand.tmp 105, Operand.tmp 111], argTypes := #[29, 29] }, type := 29, pos := "law.go:186", after := #[{ on := 7, ground := Ground.data }, { on := 13, ground := Ground.data }], guard := none }) rfl (fun K hK => ?_) AllReadyH.nil
                refine step_append_lies _ rfl (.tmp 105) (.tmp 111) 29 rfl w.heap.size 9 iS (.string ⟨#[]⟩) 1 16 Try.underlying29 s1 s2 s3 s4 rfl (by decide) _ _ _ rfl (HRO.out.drew.alloc _) ⟨y4.heap.size, 0, none⟩ 1 1 [.string ⟨(dataL x.c x.short).toArray⟩] rfl rfl (World.news_of_block (w := y4.drew.alloc (.cells #[.string ⟨(dataL x.c x.short).toArray⟩] 9)) (heap_alloc_new y4.drew _)) (by simp [Value.oneCell']) (by decide) (by simp only [maxLen]; omega) (by omega) (by have := Q4.out.size; simp; omega) (y4.heap.size + 1) (by simp) ?_
                intro g' cap' w5 hown5 hg5 hat5 hlt5
                have HG5 := Lib.hid hg5
                have HO5 := Lib.hid hown5
                have HA5 := Lib.hid hat5
                have kg : Kp (fun q => (Value.slice Ar rl cr).ownBlock = some q) y4 w5 := (((Kp.refl _ y4).drew.alloc (.cells #[.string ⟨(dataL x.c x.short).toArray⟩] 9))).grown hg5 (fun q e => .inr e)
                have e11 := (kg.cell (p := ⟨gn, a, none⟩) L4.out.lt.1 HRN.out).trans e9
                have HBX6 := Lib.hid (HBX4.out.kp kg HRG.out)
                have HYB5 := Lib.hid (HYB.out.kp kg HRY.out)
                have e12 := (kg.cell (p := ⟨gy, a, none⟩) L4.out.lt.2 HRY.out).trans ermay
                have f12 := (kg.frozen (p := ⟨gy, a, none⟩) L4.out.lt.2 HRY.out).trans frmay
                have Q5 := Lib.hid (Q4.out.trans (kg.mono fun q _ e => (HRO.out.lt q e).1))
                have D5 := Lib.hid (D4.out.kp_own kg HRO.out ⟨by decide, by decide, by decide⟩)
                clear hown5 hg5 hat5 hlt5 kg
                refine hK.out _ _ ⟨act_cells HBX6.out, e11⟩ (fun hHeld14 => ?_)
                clear hK K
                try simp only [Act.put, List.setIfInBounds_toArray, List.set_cons_zero, List.set_cons_succ]
                refine wpAnyH_take (i := 15) (oi := { dst := some 113, op := Op.indexAddr 55 (Operand.tmp 98) (Operand.tmp 100), type := 0, pos := "law.go:186", after := #[{ on := 0, ground := Ground.data }, { on := 2, ground := Ground.data }, { on := 0, ground := Ground.phase }, { on := 1, ground := Ground.phase }, { on := 2, ground := Ground.phase }, { on := 3, ground := Ground.phase }, { on := 4, ground := Ground.phase }, { on := 5, ground := Ground.phase }, { on := 6, ground := Ground.phase }, { on := 7, ground := Ground.phase }, { on := 8, ground := Ground.phase }, { on := 9, ground := Ground.phase }, { on := 10, ground := Ground.phase }, { on := 11, ground := Ground.phase }, { on := 12, ground := Ground.phase }, { on := 13, ground := Ground.phase }, { on := 14, ground := Ground.phase }], guard := none }) (v := ?_) rfl (by kernel_rfl) (by kernel_rfl) (by kernel_rfl) (fun _ _ _ h => h) (Or.inl ⟨by rfl, ?_⟩) (by assumption) ?_
                rotate_left
                · intro v hSw
                  try dsimp only at hSw
                  go_simp
                  with_reducible rfl
                try simp only [Act.put, List.setIfInBounds_toArray, List.set_cons_zero, List.set_cons_succ]
                refine wpAnyH_ready (rs := [16]) (by kernel_rfl) (by simp) ?_
                refine AllReadyH.cons (o := { dst := none, op := Op.store 29 (Operand.tmp 113) (Operand.tmp 112), type := 0, pos := "law.go:186", after := #[{ on := 15, ground := Ground.data }, { on := 14, ground := Ground.data }, { on := 14, ground := Ground.chain }, { on := 0, ground := Ground.phase }, { on := 1, ground := Ground.phase }, { on := 2, ground := Ground.phase }, { on := 3, ground := Ground.phase }, { on := 4, ground := Ground.phase }, { on := 5, ground := Ground.phase }, { on := 6, ground := Ground.phase }, { on := 7, ground := Ground.phase }, { on := 8, ground := Ground.phase }, { on := 9, ground := Ground.phase }, { on := 10, ground := Ground.phase }, { on := 11, ground := Ground.phase }, { on := 12, ground := Ground.phase }, { on := 13, ground := Ground.phase }, { on := 14, ground := Ground.phase }], guard := none }) rfl (fun K hK => ?_) AllReadyH.nil
                have L6 := Lib.hid (L4.out.app (v' := .slice (some ⟨g', 0, none⟩) (rl + 1) cap') a (by rw [HML.out]; exact han) (dataL x.c x.short) ermay (by rw [HROW.out]; exact HO5.out) HG5.out (fun q e => by
                  simp only [Value.ownBlock, Option.some.injEq] at e
                  rw [← e]
                  exact HA5.out))
                have D6 := Lib.hid (D5.out.off_cell HYB5.out ⟨by decide, by decide, by decide⟩ a (.slice (some ⟨g', 0, none⟩) (rl + 1) cap'))
                have Q6 := Lib.hid (Q5.out.setCell (p := ⟨gy, a, none⟩) (.inl L4.out.by_) (.slice (some ⟨g', 0, none⟩) (rl + 1) cap'))
                have HBX7 := Lib.hid (HBX6.out.kp (Kp.one w5 gy a (.slice (some ⟨g', 0, none⟩) (rl + 1) cap')) HGY.out)
                have e13 := ((Kp.one w5 gy a (.slice (some ⟨g', 0, none⟩) (rl + 1) cap')).cell (p := ⟨gn, a, none⟩) (World.block_lt_of_cell? w5 _ e11) L4.out.ny).trans e11
                go_simp
                refine hK.out _ _ ⟨act_cells HBX7.out, e13⟩ (fun hHeld16 => ?_)
                clear hK K
                try simp only [Act.put, List.setIfInBounds_toArray, List.set_cons_zero, List.set_cons_succ]
                refine wpAnyH_done (by kernel_rfl) ?_ _
                go_wp2_with fail
                go_meet
                exact ⟨rfl, d.act.push a (dataL x.c x.short), _, _, L6.out, D6.out, HKP.out.1, fun _ => HKP.out.2, HN.out, by simp [Dm.push, Dm.act]; omega, HFW.out.push a (dataL x.c x.short), Q6.out⟩
          case rest =>
            as_aux_lemma =>
            obtain ⟨rfl, hmid⟩ := hcut
            have HM := Lib.hid hmid
            clear hmid D1 L1 Q1 B1 y0 y1 y2 y3 y4 KII KNN HN HFW hw hxo hxk
            generalize d.power = pw at *
            clear d now may
            obtain ⟨d, now, may, lw, dk, ki, kn, hn, hw, few, q⟩ := HM.out
            have HFW := Lib.hid few
            clear few
            have L := Lib.hid lw
            have D := Lib.hid dk
            have KII := Lib.hid ki
            have KNN := Lib.hid kn
            have Q := Lib.hid q
            have HN := Lib.hid hn
            clear lw dk ki kn q hn HM
            have hdied : ∃ t, t = (pw && !d.power) := ⟨_, rfl⟩
            obtain ⟨t, ht⟩ := hdied
            have HT := Lib.hid ht
            clear ht
            go_upto_region 42 with fail
            obtain ⟨wd, rfl⟩ : ∃ wd : World, wd = wc := ⟨_, rfl⟩
            go_cut [18] from 69 to 219 (fun v wx => v = .bool t ∧ wx = wd)
            case first =>
              rcases pw with _ | _
              · go_wp2_with fail
                go_meet
                exact ⟨by rw [HT.out]; rfl, rfl⟩
              · go_wp2_with fail
                refine (alive_any D.out).mono ?_
                rintro e w3 ⟨rfl, rfl⟩
                go_wp2_with fail
                go_meet
                exact ⟨by rw [HT.out]; rfl, rfl⟩
            case rest =>
              obtain ⟨rfl, rfl⟩ := hcut
              have L0 := Lib.hid (L.out.start t d)
              clear L
              go_upto_block 7 with fail
              go_wp2_with fail
              go_loopw [19] (fun v wr => ∃ j : Nat, j ≤ n ∧ v = .int .i64 j ∧ Lw w.heap.size wr gn gy (nowIf t d now j) (mayIf t d may j) ∧ Dsk (fun k => w.heap.size ≤ k) wr b d ∧ Kp (fun k => w.heap.size ≤ k) w wr)
                (fun v _ => n - (intOf v).toNat)
              case atStart => exact ⟨0, Nat.zero_le _, rfl, L0.out, D.out, Q.out⟩
              case round =>
                obtain ⟨j, hj, rfl, hlw, hdk, hkw⟩ := hrel
                have L2 := Lib.hid hlw
                have D2 := Lib.hid hdk
                have Q2 := Lib.hid hkw
                clear hlw hdk hkw L0 D Q
                by_cases hlt : j < n
                · have hjd : j < d.on.length := by rw [HN.out]; exact hlt
                  have hrw := raw_yes D2.out j hjd
                  have hin := KII.out.onMay j hjd
                  have hnl := KII.out.nlen
                  have hml := KII.out.mlen
                  have hraw : d.rawAt j = d.on.getD j [] := rfl
                  have hlen : (d.rawAt j).length = 512 := rawAt_length (by obtain ⟨_, _, _, h, _⟩ := D2.out; exact h.ok) j hjd
                  have HIN := Lib.hid hin
                  have HNL := Lib.hid hnl
                  have HML := Lib.hid hml
                  have HRAW := Lib.hid hraw
                  have HLEN := Lib.hid hlen
                  clear hin hnl hml hraw hlen
                  go_wp2_with fail
                  refine hrw.mono ?_
                  rintro e w3 ⟨g, rfl, hb, hg, hk3⟩
                  have ht := ((show Rd w3 (some ⟨g, 0, none⟩) (d.rawAt j) from .inr ⟨g, 0, rfl, fun j' u hu => by rw [hb.cell, Nat.zero_add]; simp [bcs_get, hu]⟩)).text (P := Try.prog) 47 9 5 512 Try.underlying47 Try.underlying5 Try.underlying9
                  rw [HLEN.out, HRAW.out] at ht
                  have L3 := Lib.hid (L2.out.still hk3)
                  have D3 := Lib.hid (D2.out.still hk3)
                  have Q3 := Lib.hid (Q2.out.trans hk3.of_false)
                  clear hb hg hk3 hrw L2 D2 Q2
                  have hml : j < (mayIf t d may j).length := by rw [mayIf_length t j HML.out (by omega)]; exact hjd
                  obtain ⟨Ar, cr, er, hcr, hro⟩ := L3.out.may_cell j hml
                  rw [mayIf_get t j hjd] at er hcr hro
                  obtain ⟨row, hrow⟩ : ∃ row, row = may.getD j [] := ⟨_, rfl⟩
                  rw [← hrow] at er hcr hro HIN
                  obtain ⟨s, hs⟩ : ∃ s, d.on.getD j [] = s := ⟨_, rfl⟩
                  rw [hs] at ht HIN
                  have HS := Lib.hid hs
                  clear hs
                  have hpos : 0 < row.length := List.length_pos_of_mem HIN.out
                  obtain ⟨⟨gr, rfl⟩, hrl⟩ : (∃ gr, Ar = some ⟨gr, 0, none⟩) ∧ row.length ≤ 9223372036854775807 := by
                    rcases hro.2 with ⟨_, h1⟩ | ⟨g, cap, cur, hv, _, _, hnc, hcm, _⟩
                    · omega
                    · injection hv with hA
                      simp only [maxLen] at hcm
                      exact ⟨⟨g, hA⟩, by omega⟩
                  have RO := Lib.hid hro
                  have HROW := Lib.hid hrow
                  clear hro hrow hml
                  go_wp2_with fail
                  go_loop [21, 22] (fun f v => ∃ m : Nat, m ≤ row.length ∧ v = .int .i64 m ∧ f = .bool (among row s m)) (fun _ v => row.length - (intOf v).toNat)
                  case atStart => exact ⟨0, Nat.zero_le _, rfl, rfl⟩
                  case round =>
                    obtain ⟨m, hm, rfl, rfl⟩ := hrel
                    by_cases hlm : m < row.length
                    · have hcm : w3.cell? ⟨gr, m, none⟩ = some (.string ⟨(row.getD m []).toArray⟩) := by
                        have := RO.out.cells (g := gr) rfl m _ (strs_get row m hlm)
                        rwa [Addr.add_mid, Nat.zero_add] at this
                      have hnx := among_next row s m hlm
                      have heq := str_eq (row.getD m []) s
                      have HX := Lib.hid hnx
                      clear hnx
                      generalize row.getD m [] = rm at *
                      cases hf : among row s m
                      · rw [hf] at HX
                        have HF := Lib.hid hf
                        clear hf
                        go_wp2_with fail
                        go_round
                        case rel => exact ⟨m + 1, by omega, by go_num, by rw [HX.out]; simp⟩
                        case measure => simp [intOf]; omega
                      · rw [hf] at HX
                        have HF := Lib.hid hf
                        clear hf
                        go_wp2_with fail
                        go_round
                        case rel => exact ⟨m + 1, by omega, by go_num, by rw [HX.out]; simp⟩
                        case measure => simp [intOf]; omega
                    · have hmr : m = row.length := by omega
                      have hge : ¬ ((m : Int) < row.length) := by omega
                      have hfound : among row s m = true := by rw [hmr]; exact among_all row s HIN.out
                      generalize among row s m = fnd at *
                      subst hfound
                      have hjn : j < (nowIf t d now j).length := by rw [nowIf_length t j HNL.out (by omega)]; exact hjd
                      have hjm : j < (mayIf t d may j).length := by rw [mayIf_length t j HML.out (by omega)]; exact hjd
                      cases t with
                      | false =>
                        go_wp2_with fail
                        go_roundw
                        case rel => exact ⟨j + 1, by omega, by go_num, L3.out, D3.out, Q3.out⟩
                        case measure => simp [intOf]; omega
                      | true =>
                        have n1 := nowIf_next (d := d) (now := now) j HNL.out hjd
                        have n2 := mayIf_next (d := d) (may := may) j HML.out hjd
                        rw [HS.out] at n1 n2
                        have e1 := L3.out.now_cell j hjn
                        have f1 := L3.out.nb.free j
                        have l4 := L3.out.setNow j s
                        rw [n1] at l4
                        have l4a := l4.alloc (.cells #[.string ⟨s.toArray⟩] 9)
                        obtain ⟨A0, cp0, e3, _, _⟩ := l4a.may_cell j hjm
                        obtain ⟨mv, hmv, _⟩ := l4a.rows
                        have f3 := hmv.free j
                        have kf := Q3.out.setCell (p := ⟨gn, j, none⟩) (.inl l4.bn) (.string ⟨s.toArray⟩)
                        have l5 := l4.reset kf.size j hjm s
                        rw [n2] at l5
                        have hsz : (w3.setCell ⟨gn, j, none⟩ (.string ⟨s.toArray⟩)).heap.size = w3.heap.size := by simp [World.setCell]
                        rw [hsz] at l5
                        have d5 : Dsk (fun k => w.heap.size ≤ k) (((w3.setCell ⟨gn, j, none⟩ (.string ⟨s.toArray⟩)).alloc (.cells #[.string ⟨s.toArray⟩] 9)).setCell ⟨gy, j, none⟩ (.slice (some ⟨w3.heap.size, 0, none⟩) 1 1)) b d := by
                          have h1 := D3.out.off_cell L3.out.nb ⟨by decide, by decide, by decide⟩ j (.string ⟨s.toArray⟩)
                          have h2 := h1.still ((Kp.refl _ _).alloc (.cells #[.string ⟨s.toArray⟩] 9))
                          exact h2.off_cell hmv ⟨by decide, by decide, by decide⟩ j _
                        have k5 := (kf.alloc (.cells #[.string ⟨s.toArray⟩] 9)).setCell (p := ⟨gy, j, none⟩) (.inl l4.by_) (.slice (some ⟨w3.heap.size, 0, none⟩) 1 1)
                        have L5 := Lib.hid l5
                        have D5 := Lib.hid d5
                        have K5 := Lib.hid k5
                        clear n1 n2 l4 l4a hmv kf l5 hsz d5 k5 hjn hjm
                        go_wp2_with fail
                        go_roundw
                        case rel => exact ⟨j + 1, by omega, by go_num, L5.out, D5.out, K5.out⟩
                        case measure => simp [intOf]; omega
                · have hjn : j = n := by omega
                  have hge : ¬ ((j : Int) < n) := by omega
                  rw [hjn] at L2
                  have hfin := after_look pw KII.out (fun h => KNN.out h)
                  rw [← HT.out, HN.out] at hfin
                  have RR : Hid (KRel w.heap.size w gn gy b n (i + 1) wr) := Lib.hid ⟨d, _, _, L2.out, D2.out, hfin.1, hfin.2, HN.out, hw, HFW.out.look t d n, Q2.out⟩
                  clear hfin hjn
                  go_wp2_with fail
                  go_roundw
                  case rel => exact ⟨i + 1, by omega, by go_num, RR.out⟩
                  case measure => simp [intOf]; omega
        · have hge : ¬ ((i : Int) < l.length) := by omega
          go_wp2_with fail
          refine (wakes_true _).mono ?_
          rintro e w9 ⟨rfl, k9⟩
          have K9 := Lib.hid k9
          clear k9
          go_wp2_with fail
          go_ret
          obtain ⟨_, _, _, _, _, _, _, _, _, _, q⟩ := R.out
          exact ⟨rfl, q.trans K9.out.of_false⟩
end Go.Proofs.Ytbdiebkfkmjjiaa
