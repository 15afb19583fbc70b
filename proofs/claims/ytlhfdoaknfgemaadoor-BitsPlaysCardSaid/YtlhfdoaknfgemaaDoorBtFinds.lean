/- The law BitsFind: whatever the number and the acts, it answers true, and nothing that was there is turned. Condition: the table of the lowest bit reads as the program's text lays it. -/
import Derived.Test.YtlhfdoaknfgemaaDoorBtTake
import Derived.Test.YtlhfdoaknfgemaaDoorBtRefB
import Derived.Test.YtlhfdoaknfgemaaDoorBtWake
import Derived.Test.YtlhfdoaknfgemaaDoorBtEq
namespace Go.Proofs.YtlhfdoaknfgemaaDoor
open Go.RowKit

/-- A slice at the address A reads as these numbers. -/
def RdZ (w : World) (A : Option Addr) (l : List Int) : Prop :=
  l = [] ∨ ∃ b o, A = some ⟨b, o, none⟩ ∧ ∀ (j : Nat) (u : Int), l[j]? = some u → w.cell? ⟨b, o + j, none⟩ = some (.int .i64 u)
theorem RdZ.at' {w : World} {A : Option Addr} {l : List Int} {k : Nat} (h : RdZ w A l) (hk : k < l.length) : ∃ b o, A = some ⟨b, o, none⟩ ∧ w.cell? ⟨b, o + k, none⟩ = some (.int .i64 l[k]) := by
  rcases h with rfl | ⟨b, o, rfl, hc⟩
  · simp at hk
  · exact ⟨b, o, rfl, hc k l[k] (List.getElem?_eq_getElem hk)⟩
theorem RdZ.kp {S : Nat → Prop} {w w' : World} {A : Option Addr} {l : List Int} (h : RdZ w A l) (hk : Kp S w w') (hn : ∀ a, A = some a → ¬ S a.block) : RdZ w' A l := by
  rcases h with h | ⟨b, o, rfl, hc⟩
  · exact .inl h
  · exact .inr ⟨b, o, rfl, fun j u hu => (hk.cell (p := ⟨b, o + j, none⟩) (World.block_lt_of_cell? w ⟨b, o + j, none⟩ (hc j u hu)) (hn ⟨b, o, none⟩ rfl)).trans (hc j u hu)⟩
theorem make_flags (n : Nat) (hn : n ≤ 1048576) (W : World) : (Instr.makeSlice 32 (.int .i64 n) (.int .i64 n)).run Tryd.prog W = .ok (.slice (some ⟨W.heap.size, 0, none⟩) n n) (W.alloc (.cells (bls (List.replicate n false)).toArray 4)) := by
  obtain ⟨i, h1, h2, h3, h4⟩ := info_parts0 infoBool
  have := make_row (P := Tryd.prog) 32 4 i (.bool false) Tryd.underlying32 h1 h2 h3 h4 rfl n hn W
  rw [this]
  simp [bls]
theorem set_row (lb : List Bool) (n kk : Nat) (u : Bool) (hl : lb.length = n) (h2 : n ≤ 1024) (hk : kk < n) (W : World) :
    Calls Tryd.prog 9 #[.agg (mcs (fnL lb) n).toArray, .int .i64 kk, .bool u] W fun e w' => e = .returned (.agg (mcs (fnL (lb.set kk u)) n).toArray) ∧ Kp (fun _ => False) W w' := by
  have h := set_any (fnL lb) n kk u W h2
  subst hl
  rw [fnL_set] at h
  have e : setB lb kk u = lb.set kk u := by
    unfold setB
    rw [pgB_true (by omega) (by omega)]
    rfl
  rw [e] at h
  exact h
theorem Mp.far' {w : World} {g gt k : Nat} {f : Nat → Bool} {n : Nat} {u : Value} (h : Mp w g f n) (hne : g ≠ gt) : Mp (w.setCell ⟨gt, k, none⟩ u) g f n := h.far (p := ⟨gt, k, none⟩) hne u
/-- The page of a map is that map's. -/
theorem bitL_page (f : Nat → Bool) (n : Nat) (h : Wf f n) : bitL (pageL f) = f := by
  funext i
  unfold bitL
  rw [List.getD_eq_getElem?_getD]
  rcases Nat.lt_or_ge (i / 8) 512 with hi | hi
  · rw [pageL_get _ _ hi, Option.getD_some, UInt8.toNat_ofNat_of_lt' (byN_lt _ _), byN_bit]
    have h1 : i % 8 < 8 := Nat.mod_lt _ (by decide)
    have h2 : 8 * (i / 8) + i % 8 = i := by omega
    simp [h1, h2]
  · rw [List.getElem?_eq_none (by rw [pageL_length]; exact hi), h.off i (by have := h.few; omega)]
    simp
theorem cnt_list (l : List Bool) : cntF (fnL l) l.length = l.count true := by
  unfold cntF
  congr 1
  refine List.ext_getElem? fun j => ?_
  rw [List.getElem?_map]
  rcases Nat.lt_or_ge j l.length with h | h
  · rw [List.getElem?_range h, Option.map_some]
    unfold fnL
    rw [List.getD_eq_getElem?_getD, List.getElem?_eq_getElem h]; rfl
  · rw [List.getElem?_eq_none (by simpa using h), List.getElem?_eq_none h]; rfl
theorem cnt_set (l : List Bool) (k : Nat) (u : Bool) (hk : k < l.length) : (l.set k u).count true + (if l.getD k false then 1 else 0) = l.count true + (if u then 1 else 0) := by
  induction l generalizing k with
  | nil => simp at hk
  | cons b r ih =>
    cases k with
    | zero => cases b <;> cases u <;> simp
    | succ k =>
      have := ih k (by simpa using hk)
      rw [List.set_cons_succ, List.getD_cons_succ, List.count_cons, List.count_cons]
      omega
theorem cnt_full (l : List Bool) (k : Nat) (h : Least (fnL l) l.length k) : l.count true < l.length ↔ k < l.length := by
  have hle := h.le
  constructor
  · intro hc
    rcases Nat.lt_or_ge k l.length with hk | hk
    · exact hk
    · exfalso
      have : l = List.replicate l.length true := by
        refine List.ext_getElem? fun j => ?_
        rcases Nat.lt_or_ge j l.length with hj | hj
        · have hb := h.below j (by omega)
          unfold fnL at hb
          rw [List.getD_eq_getElem?_getD, List.getElem?_eq_getElem hj] at hb
          rw [List.getElem?_replicate_of_lt hj, List.getElem?_eq_getElem hj]
          exact congrArg some hb
        · rw [List.getElem?_eq_none hj, List.getElem?_eq_none (by simpa using hj)]
      rw [this] at hc
      simp at hc
  · intro hk
    have h0 := h.at_ hk
    have hs := cnt_set l k true hk
    unfold fnL at h0
    rw [h0] at hs
    have hm := List.count_le_length (a := true) (l := l.set k true)
    rw [List.length_set] at hm
    simp at hs
    omega
set_option maxRecDepth 100000 in
set_option maxHeartbeats 1000000 in
theorem finds_few (p : Nat) (A : Option Addr) (l : List Int) (c : Nat) (w : World) (hp : p < 65536) (hm : l.length ≤ maxLen) (tb : Tbl w) (h : 1500 < l.length ∨ p < 1 ∨ 1024 < p) :
    Calls Tryd.prog 5 #[.int .u16 p, .slice A l.length c] w fun e w' => e = .returned (.bool true) ∧ Kp (fun _ => False) w w' := by
  unfold maxLen at hm
  have hmi : (l.length : Int) ≤ 9223372036854775807 := by omega
  clear hm
  have HW := Lib.hid (wakes_true w tb)
  clear tb
  have Hpi := Lib.hid hp
  clear hp
  by_cases h5 : 1500 < l.length
  · clear h
    go_enter Tryd.func5, Tryd.ntmps5
    go_wp2_with fail
    refine (HW.out).mono ?_
    rintro e w1 ⟨rfl, k1⟩
    have K1 := Lib.hid k1
    clear k1
    go_wp2_with fail
    go_ret
    exact ⟨rfl, K1.out⟩
  · by_cases hp1 : p < 1
    · obtain rfl : p = 0 := by omega
      clear h
      go_enter Tryd.func5, Tryd.ntmps5
      go_wp2_with fail
      refine (HW.out).mono ?_
      rintro e w1 ⟨rfl, k1⟩
      have K1 := Lib.hid k1
      clear k1
      go_wp2_with fail
      go_ret
      exact ⟨rfl, K1.out⟩
    · have hp2 : 1024 < p := by omega
      have hcv : IntKind.i64.wrap (p : Int) = (p : Int) := IntWalk.i64_in _ (by have := Hpi.out; omega)
      have hd1 : decide ((p : Int) < 1) = false := by simp; omega
      have hd2 : decide (1024 < (p : Int)) = true := by simp; omega
      clear h
      go_enter Tryd.func5, Tryd.ntmps5
      go_wp2_with fail
      refine (HW.out).mono ?_
      rintro e w1 ⟨rfl, k1⟩
      have K1 := Lib.hid k1
      clear k1
      go_wp2_with fail
      go_ret
      exact ⟨rfl, K1.out⟩
set_option maxRecDepth 100000 in
set_option maxHeartbeats 4000000 in
theorem finds_walk (n : Nat) (A : Option Addr) (l : List Int) (c : Nat) (w : World) (hl : l.length ≤ 1500) (h1 : 1 ≤ n) (h2 : n ≤ 1024) (hr : RdZ w A l) (tb : Tbl w) :
    Calls Tryd.prog 5 #[.int .u16 n, .slice A l.length c] w fun e w' => e = .returned (.bool true) ∧ Kp (fun _ => False) w w' := by
  have hnew := new_any (n : Int) w
  rw [if_pos ⟨by omega, by omega⟩, if_pos ⟨by omega, by omega⟩, Int.toNat_natCast] at hnew
  have HN := Lib.hid hnew
  have HR := Lib.hid hr
  have HT := Lib.hid tb
  have hni : (n : Int) ≤ 1024 := by omega
  have hn1 : (1 : Int) ≤ n := by omega
  have hli : (l.length : Int) ≤ 1500 := by omega
  have hd1 : decide ((n : Int) < 1) = false := by simp; omega
  have hd2 : decide (1024 < (n : Int)) = false := by simp; omega
  have hd3 : decide (1500 < (l.length : Int)) = false := by simp; omega
  have hnof := Lib.hid (show nof = fnL (List.replicate n false) by
    funext i
    unfold nof fnL
    rw [List.getD_eq_getElem?_getD]
    rcases Nat.lt_or_ge i n with h | h
    · rw [List.getElem?_replicate_of_lt h]; rfl
    · rw [List.getElem?_eq_none (by simpa using h)]; rfl)
  clear hnew hr tb
  go_enter Tryd.func5, Tryd.ntmps5
  go_wp2_with fail
  refine (HN.out).mono ?_
  rintro e w1 ⟨rfl, k1⟩
  have K1 := Lib.hid k1
  clear k1
  rw [hnof.out]
  go_upto_region 5 with (first | (refine bstore_box rfl 27 (.tmp 6) (.tmp 33) rfl (w1.heap.size) (mcs (fnL (List.replicate n false)) n) rfl rfl (Box.new w1 _ _) (by rw [mcs_length]; rfl) (infoMcs _ _) (mcs_one _ _) ?_; intro w2 hb2 hk2) | fail)
  have K2 := Lib.hid ((K1.out.alloc (.cells #[.int .u64 0, .int .u64 0, .int .u64 0, .int .u64 0, .int .u64 0, .int .u64 0, .int .u64 0, .int .u64 0, .int .u64 0, .int .u64 0, .int .u64 0, .int .u64 0, .int .u64 0, .int .u64 0, .int .u64 0, .int .u64 0, .int .i64 0] 27)).trans_new hk2 (fun k e => .inl (by have := K1.out.size; omega)))
  have M2 : Hid (Mp w2 w1.heap.size (fnL (List.replicate n false)) n) := Lib.hid hb2
  obtain ⟨gm, hgm⟩ : ∃ gm, w1.heap.size = gm := ⟨_, rfl⟩
  rw [hgm] at M2
  have HG := Lib.hid hgm
  rw [HG.out]
  have hmk := make_flags n (by omega) w2
  obtain ⟨W3, hW3, hm3, hb3, hk3⟩ : ∃ W3, W3 = w2.alloc (.cells (bls (List.replicate n false)).toArray 4) ∧ Mp W3 gm (fnL (List.replicate n false)) n ∧ RdM W3 w2.heap.size (List.replicate n false) ∧ Kp (fun _ => False) w W3 :=
    ⟨_, rfl, M2.out.alloc _, RdM.new w2 _, K2.out.alloc _⟩
  rw [← hW3] at hmk
  obtain ⟨gt, hgt⟩ : ∃ gt, w2.heap.size = gt := ⟨_, rfl⟩
  rw [hgt] at hmk hb3
  have hne := Lib.hid (show gm ≠ gt by have := M2.out.lt; omega)
  have hgw := Lib.hid (show w.heap.size ≤ gm by have := K1.out.size; omega)
  have hgt2 := Lib.hid (show w.heap.size ≤ gt by have := K2.out.size; omega)
  have B3 := Lib.hid hb3
  have M3 := Lib.hid hm3
  have K3 := Lib.hid hk3
  clear hb2 hk2 hgm hW3 hm3 hb3 hk3 hgt
  go_wp2_with fail
  clear hmk
  have Hrep : Hid ((List.replicate n false).count true = 0) := Lib.hid (by simp [List.count_replicate])
  have Hrl : Hid ((List.replicate n false).length = n) := Lib.hid List.length_replicate
  go_loopw [9, 10] (fun u i wr => ∃ (k : Nat) (lb : List Bool), k ≤ l.length ∧ i = .int .i64 k ∧ lb.length = n ∧ u = .int .i64 ((lb.count true : Nat) : Int) ∧ Mp wr gm (fnL lb) n ∧ RdM wr gt lb ∧ Kp (fun _ => False) w wr)
    (fun _ i _ => l.length - (intOf i).toNat)
  case atStart => exact ⟨0, List.replicate n false, Nat.zero_le _, rfl, Hrl.out, by rw [Hrep.out]; rfl, M3.out, B3.out, K3.out⟩
  case round =>
    obtain ⟨k, lb, hk, rfl, hlb, rfl, hm, hb, hkw⟩ := hrel
    have HM := Lib.hid hm
    have HB := Lib.hid hb
    have HK := Lib.hid hkw
    have HLB := Lib.hid hlb
    have hwf := fnL_wf lb (by omega)
    rw [hlb] at hwf
    have HWF := Lib.hid hwf
    obtain ⟨lk, hlk⟩ := least_is (fnL lb) lb.length
    have hful := cnt_full lb lk hlk
    have hcle := List.count_le_length (a := true) (l := lb)
    rw [hlb] at hcle hful hlk
    have HLK := Lib.hid hlk
    have hlkl := hlk.le
    have HRz := Lib.hid (HR.out.kp HK.out (fun _ _ h => h))
    have Hset := Lib.hid (fun kk u h => cnt_set lb kk u h)
    obtain ⟨cn, hcn⟩ : ∃ cn, lb.count true = cn := ⟨_, rfl⟩
    rw [hcn] at Hset hful hcle ⊢
    have HCN := Lib.hid hcn
    clear hm hb hkw hlb hwf hlk hcn
    by_cases hlt : k < l.length
    · obtain ⟨b, o, hA, hc⟩ := HRz.out.at' hlt
      subst hA
      obtain ⟨z, hz⟩ : ∃ z, l[k] = z := ⟨_, rfl⟩
      rw [hz] at hc
      clear hz
      by_cases hz0 : 0 ≤ z
      · obtain ⟨zn, rfl⟩ := Int.eq_ofNat_of_zero_le hz0
        have hmod : (zn : Int) % (n : Int) = ((zn % n : Nat) : Int) := (Int.natCast_emod zn n).symm
        have hmod2 : (zn : Int).tmod (n : Int) = ((zn % n : Nat) : Int) := by rw [Int.tmod_eq_emod_of_nonneg (by omega)]; exact hmod
        have hkk : zn % n < n := Nat.mod_lt _ (by omega)
        obtain ⟨kk, hkke⟩ : ∃ kk, zn % n = kk := ⟨_, rfl⟩
        rw [hkke] at hmod hmod2 hkk
        have hkw : IntKind.i64.wrap (kk : Int) = (kk : Int) := IntWalk.i64_in _ (by omega)
        clear hkke
        have hq := set_row lb n kk false HLB.out h2 hkk wr
        have hcs := Hset.out kk false (by rw [HLB.out]; exact hkk)
        have hcell := HB.out.cell kk (by rw [HLB.out]; exact hkk)
        have hsl := Lib.hid (show (lb.set kk false).length = n by rw [List.length_set]; exact HLB.out)
        obtain ⟨u, hu⟩ : ∃ u, lb.getD kk false = u := ⟨_, rfl⟩
        rw [hu] at hcs hcell
        have HU := Lib.hid hu
        have HQ := Lib.hid hq
        have HCS := Lib.hid hcs
        clear hu hq hcs hcell
        have hkki : (kk : Int) < n := by omega
        have HZ := Lib.hid hz0
        go_upto_region 14 with fail
        go_wp2_with (first | (refine wpList_load_mid rfl 27 (.tmp 6) rfl gm 0 rfl (mcs (fnL lb) n) _ (Mp.range HM.out) Tryd.underlying27 rfl (infoMca _ _) ?_) | fail)
        refine (HQ.out).mono ?_
        rintro e w4 ⟨rfl, k4⟩
        have K4 := Lib.hid (HK.out.trans k4)
        have M4 := Lib.hid (HM.out.kp k4 (fun h => h))
        have B4 := Lib.hid (HB.out.kp k4 (fun h => h))
        clear k4
        go_upto_region 15 with (first | (refine bstore_box rfl 27 (.tmp 6) (.tmp 58) rfl (gm) (mcs (fnL (lb.set kk false)) n) rfl rfl M4.out (by simp [mcs_length]) (infoMcs _ _) (mcs_one _ _) ?_; intro w5 hb5 hk5) | fail)
        have K5 := Lib.hid (K4.out.trans_new hk5 (fun k e => .inl (by have := hgw.out; omega)))
        have M5 : Hid (Mp w5 gm (fnL (lb.set kk false)) n) := Lib.hid hb5
        have B5 := Lib.hid (B4.out.kp hk5 (fun e => hne.out e.symm))
        have YC : Hid (w5.cell? ⟨gt, kk, none⟩ = some (.bool u)) := Lib.hid (by rw [B5.out.cell kk (by rw [HLB.out]; exact hkk), HU.out])
        clear hb5 hk5
        have yc : w5.cell? ⟨gt, kk, none⟩ = some (.bool u) := YC.out
        have yf := B5.out.free kk
        rcases u with _ | _
        · go_wp2_with fail
          go_roundw
          case rel =>
            refine ⟨k + 1, lb.set kk false, by omega, by go_num, hsl.out, ?_, M5.out.far' hne.out, B5.out.put kk false, K5.out.setCell (p := ⟨gt, kk, none⟩) (.inl hgt2.out) _⟩
            have h := HCS.out
            have e : (lb.set kk false).count true = cn := by simpa using h
            rw [e]
          case measure => simp [intOf]; omega
        · have hc1 : 1 ≤ cn := by
            have h := HCS.out
            simp at h
            omega
          go_wp2_with fail
          go_roundw
          case rel =>
            refine ⟨k + 1, lb.set kk false, by omega, by go_num, hsl.out, ?_, M5.out.far' hne.out, B5.out.put kk false, K5.out.setCell (p := ⟨gt, kk, none⟩) (.inl hgt2.out) _⟩
            have h := HCS.out
            have e : (lb.set kk false).count true + 1 = cn := by simpa using h
            congr 1
            omega
          case measure => simp [intOf]; omega
      · have hz1 : z < 0 := by omega
        have HFI := Lib.hid (find_any (fnL lb) n lk wr HWF.out HLK.out (HT.out.kp HK.out (fun h => h)))
        by_cases hln : lk < n
        · have hcl : cn < n := hful.2 hln
          have hdc : decide (cn < n) = true := by simp; exact hcl
          rw [if_pos hln, decide_eq_true hln] at HFI
          have hq := set_row lb n lk true HLB.out h2 hln
          have hcs := Hset.out lk true (by rw [HLB.out]; exact hln)
          have hlow : lb.getD lk false = false := HLK.out.at_ hln
          rw [hlow] at hcs
          have HCS : Hid ((lb.set lk true).count true = cn + 1) := Lib.hid (by simpa using hcs)
          have hsl := Lib.hid (show (lb.set lk true).length = n by rw [List.length_set]; exact HLB.out)
          have HQ := Lib.hid hq
          have HLOW := Lib.hid hlow
          clear hful hq hcs hlow hlkl
          have hlki : (lk : Int) < n := by omega
          have hd5 : decide ((lk : Int) < 0) = false := by simp
          go_upto_region 18 with fail
          go_wp2_with (first | (refine wpList_load_mid rfl 27 (.tmp 6) rfl gm 0 rfl (mcs (fnL lb) n) _ (Mp.range HM.out) Tryd.underlying27 rfl (infoMca _ _) ?_) | fail)
          refine (HFI.out).mono ?_
          rintro e w4 ⟨rfl, k4⟩
          have K4 := Lib.hid (HK.out.trans k4)
          have M4 := Lib.hid (HM.out.kp k4 (fun h => h))
          have B4 := Lib.hid (HB.out.kp k4 (fun h => h))
          clear k4
          have yc : w4.cell? ⟨gt, lk, none⟩ = some (.bool false) := by
            rw [B4.out.cell lk (by rw [HLB.out]; exact hln), HLOW.out]
          have B4L : Hid (∀ j, j < lk → w4.cell? ⟨gt, j, none⟩ = some (.bool true)) := Lib.hid (fun j hj => by
            rw [B4.out.cell j (by rw [HLB.out]; omega)]
            exact congrArg (fun x => some (Value.bool x)) (HLK.out.below j hj))
          have hlkm : (lk : Int) ≤ 1024 := by omega
          go_wp2_with fail
          go_loop [14] (fun i => ∃ j : Nat, j ≤ lk ∧ i = .int .i64 j) (fun i => lk - (intOf i).toNat)
          case atStart => exact ⟨0, Nat.zero_le _, rfl⟩
          case round =>
            obtain ⟨j, hj, rfl⟩ := hrel
            by_cases hjl : j < lk
            · have y4 := B4L.out j hjl
              have hjn : (j : Int) < n := by omega
              go_wp2_with fail
              go_round
              case rel => exact ⟨j + 1, by omega, by go_num⟩
              case measure => simp [intOf]; omega
            · obtain rfl : j = lk := by omega
              have yf := B4.out.free j
              clear hj hjl
              go_upto_region 31 with fail
              have M5 := Lib.hid (M4.out.far' (k := j) (u := .bool true) hne.out)
              have B5 := Lib.hid (B4.out.put j true)
              have K5 := Lib.hid (K4.out.setCell (p := ⟨gt, j, none⟩) (.inl hgt2.out) (.bool true))
              obtain ⟨w5, hw5⟩ : ∃ w5, w4.setCell ⟨gt, j, none⟩ (.bool true) = w5 := ⟨_, rfl⟩
              rw [hw5] at M5 B5 K5 ⊢
              clear hw5 yc yf
              go_wp2_with (first | (refine wpList_load_mid rfl 27 (.tmp 6) rfl gm 0 rfl (mcs (fnL lb) n) _ (Mp.range M5.out) Tryd.underlying27 rfl (infoMca _ _) ?_) | fail)
              refine (HQ.out w5).mono ?_
              rintro e w6 ⟨rfl, k6⟩
              have K6 := Lib.hid (K5.out.trans k6)
              have M6 := Lib.hid (M5.out.kp k6 (fun h => h))
              have B6 := Lib.hid (B5.out.kp k6 (fun h => h))
              clear k6
              go_upto_region 32 with (first | (refine bstore_box rfl 27 (.tmp 6) (.tmp 110) rfl (gm) (mcs (fnL (lb.set j true)) n) rfl rfl M6.out (by simp [mcs_length]) (infoMcs _ _) (mcs_one _ _) ?_; intro w7 hb7 hk7) | fail)
              have K7 := Lib.hid (K6.out.trans_new hk7 (fun k e => .inl (by have := hgw.out; omega)))
              have M7 : Hid (Mp w7 gm (fnL (lb.set j true)) n) := Lib.hid hb7
              have B7 := Lib.hid (B6.out.kp hk7 (fun e => hne.out e.symm))
              clear hb7 hk7
              have hwf2 := fnL_wf (lb.set j true) (by rw [hsl.out]; omega)
              rw [hsl.out] at hwf2
              have hus := used_any (fnL (lb.set j true)) n w7 hwf2
              have hcl2 := cnt_list (lb.set j true)
              rw [hsl.out, HCS.out] at hcl2
              rw [hcl2] at hus
              have HUS := Lib.hid hus
              clear hwf2 hus hcl2
              go_wp2_with (first | (refine wpList_load_mid rfl 27 (.tmp 6) rfl gm 0 rfl (mcs (fnL (lb.set j true)) n) _ (Mp.range M7.out) Tryd.underlying27 rfl (infoMca _ _) ?_) | fail)
              refine (HUS.out).mono ?_
              rintro e w8 ⟨rfl, k8⟩
              have K8 := Lib.hid (K7.out.trans k8)
              have M8 := Lib.hid (M7.out.kp k8 (fun h => h))
              have B8 := Lib.hid (B7.out.kp k8 (fun h => h))
              clear k8
              have hc1 : ((cn : Int) + 1) = ((cn + 1 : Nat) : Int) := by omega
              rw [← hc1]
              clear hc1
              have hcn3 : (cn : Int) ≤ 1024 := by omega
              go_wp2_with fail
              go_roundw
              case rel => exact ⟨k + 1, lb.set j true, by omega, by go_num, hsl.out, by rw [HCS.out]; go_num, M8.out, B8.out, K8.out⟩
              case measure => simp [intOf]; omega
        · have hlkn : lk = n := by omega
          have hcl : ¬ cn < n := fun h => hln (hful.1 h)
          have hdc : decide (cn < n) = false := by simp; omega
          rw [if_neg hln, decide_eq_false hln] at HFI
          clear hful hlkn hlkl
          go_upto_region 18 with fail
          go_wp2_with (first | (refine wpList_load_mid rfl 27 (.tmp 6) rfl gm 0 rfl (mcs (fnL lb) n) _ (Mp.range HM.out) Tryd.underlying27 rfl (infoMca _ _) ?_) | fail)
          refine (HFI.out).mono ?_
          rintro e w4 ⟨rfl, k4⟩
          have K4 := Lib.hid (HK.out.trans k4)
          have M4 := Lib.hid (HM.out.kp k4 (fun h => h))
          have B4 := Lib.hid (HB.out.kp k4 (fun h => h))
          clear k4
          go_wp2_with fail
          go_roundw
          case rel => exact ⟨k + 1, lb, by omega, by go_num, HLB.out, by rw [HCN.out], M4.out, B4.out, K4.out⟩
          case measure => simp [intOf]; omega
    · have hkl : k = l.length := by omega
      have HTr := Lib.hid (HT.out.kp HK.out (fun h => h))
      have HBY := Lib.hid (bytes_any (fnL lb) n wr HWF.out)
      clear hkl hful hlkl
      go_wp2_with (first | (refine wpList_load_mid rfl 27 (.tmp 6) rfl gm 0 rfl (mcs (fnL lb) n) _ (Mp.range HM.out) Tryd.underlying27 rfl (infoMca _ _) ?_) | fail)
      refine (HBY.out).mono ?_
      rintro e w4 ⟨gb, rfl, hnb, k4⟩
      have K4 := Lib.hid (HK.out.trans k4)
      have M4 := Lib.hid (HM.out.kp k4 (fun h => h))
      have hpage := bitL_page (fnL lb) n HWF.out
      have htk := take_ok gb 0 512 (pageL (fnL lb)) n w4 h1 h2 (pageL_length _) (by rw [hpage]; exact HWF.out.off) (fun j u hu => by
        rw [Nat.zero_add, hnb.2.cell, List.getElem?_toArray, bcs_get, hu]; rfl)
      rw [hpage] at htk
      have HTK := Lib.hid htk
      clear k4 hnb hpage htk
      go_wp2_with fail
      refine (HTK.out).mono ?_
      rintro e w5 ⟨rfl, k5⟩
      have K5 := Lib.hid (K4.out.trans k5)
      have M5 := Lib.hid (M4.out.kp k5 (fun h => h))
      clear k5
      go_upto_region 35 with (first | (refine bstore_box rfl 27 (.tmp 15) (.tmp 120) rfl (w5.heap.size) (mcs (fnL (lb)) n) rfl rfl (Box.new w5 _ _) (by rw [mcs_length]; rfl) (infoMcs _ _) (mcs_one _ _) ?_; intro w6 hb6 hk6) | fail)
      have hsz5 := M5.out.lt
      have K6 := Lib.hid ((K5.out.alloc (.cells #[.int .u64 0, .int .u64 0, .int .u64 0, .int .u64 0, .int .u64 0, .int .u64 0, .int .u64 0, .int .u64 0, .int .u64 0, .int .u64 0, .int .u64 0, .int .u64 0, .int .u64 0, .int .u64 0, .int .u64 0, .int .u64 0, .int .i64 0] 27)).trans_new hk6 (fun k e => .inl (by have := K5.out.size; omega)))
      have N6 : Hid (Mp w6 w5.heap.size (fnL lb) n) := Lib.hid hb6
      have M6 := Lib.hid ((M5.out.alloc (.cells #[.int .u64 0, .int .u64 0, .int .u64 0, .int .u64 0, .int .u64 0, .int .u64 0, .int .u64 0, .int .u64 0, .int .u64 0, .int .u64 0, .int .u64 0, .int .u64 0, .int .u64 0, .int .u64 0, .int .u64 0, .int .u64 0, .int .i64 0] 27)).kp hk6 (fun e => by omega))
      obtain ⟨ga, hga⟩ : ∃ ga, w5.heap.size = ga := ⟨_, rfl⟩
      rw [hga] at N6 
      have HG6 := Lib.hid hga
      rw [HG6.out]
      have HT6 := Lib.hid (HT.out.kp K6.out (fun h => h))
      have HEQ := Lib.hid (eql_map (fnL lb) n)
      clear hb6 hk6 hga hsz5
      refine wp_region_list ?_
      simp only []
      refine wpList_step (fun K hK => ?_)
      go_simp
      refine hK _ _ ?_
      clear hK K
      refine wpList_step (fun K hK => ?_)
      go_simp
      refine hK _ _ ?_
      clear hK K
      refine wpList_step (fun K hK => ?_)
      go_simp
      refine hK _ _ ?_
      clear hK K
      refine wpList_step (fun K hK => ?_)
      rw [if_pos (by rfl)]
      refine wp_load_mid 27 (.tmp 15) rfl (ga) 0 rfl (mcs (fnL lb) n) _ (Mp.range N6.out) Tryd.underlying27 rfl (infoMcs _ _) ?_
      refine hK _ _ ?_
      clear hK K
      refine wpList_step (fun K hK => ?_)
      rw [if_pos (by rfl)]
      refine wp_load_mid 27 (.tmp 6) rfl (gm) 0 rfl (mcs (fnL lb) n) _ (Mp.range M6.out) Tryd.underlying27 rfl (infoMcs _ _) ?_
      refine hK _ _ ?_
      clear hK K
      refine wpList_step (fun K hK => ?_)
      rw [if_pos (by rfl)]
      refine wp_eql_known 27 27 (.tmp 125) (.tmp 126) rfl _ _ _ rfl rfl (by kernel_rfl) (HEQ.out w6) ?_
      refine hK _ _ ?_
      clear hK K
      refine wpList_step (fun K hK => ?_)
      go_simp
      refine hK _ _ ?_
      clear hK K
      refine wpList_step (fun K hK => ?_)
      go_simp
      refine hK _ _ ?_
      clear hK K
      refine wpList_step (fun K hK => ?_)
      go_simp
      refine (wakes_true w6 HT6.out).mono ?_
      rintro e w7 ⟨rfl, k7⟩
      have K7 := Lib.hid (K6.out.trans k7)
      clear k7
      go_simp
      refine hK _ _ ?_
      clear hK K
      refine wpList_step (fun K hK => ?_)
      go_simp
      refine hK _ _ ?_
      clear hK K
      refine wpList_step (fun K hK => ?_)
      go_simp
      refine hK _ _ ?_
      clear hK K
      refine wpList_nil ?_
      go_wp2_with fail
      go_ret
      exact ⟨rfl, K7.out⟩
end Go.Proofs.YtlhfdoaknfgemaaDoor
