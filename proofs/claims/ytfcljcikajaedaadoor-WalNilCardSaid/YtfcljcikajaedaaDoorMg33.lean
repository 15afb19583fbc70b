/- What wal.headOf answers: the head of a sector's bytes, or a zero one and false. Conditions: the table of half bytes reads as the program's text lays it; the sector 0 or 1. -/
import Derived.Test.YtfcljcikajaedaaDoorMg32
import Derived.Test.YtfcljcikajaedaaDoorMg3
namespace Go.Proofs.YtfcljcikajaedaaDoor
open Go.RowKit

/-- What headOf answers. -/
def z5 : List Value := [.int .u64 0, .int .u64 0, .int .i64 0, .string ⟨#[]⟩, .int .i64 0]
def headV (l : List UInt8) (a : Nat) : Value := match headS l with
  | some h => .tuple #[.agg (hcs h a).toArray, .bool true]
  | none => .tuple #[.agg z5.toArray, .bool false]
theorem headV_none {l : List UInt8} {a : Nat} (h : headS l = none) : headV l a = .tuple #[.agg z5.toArray, .bool false] := by rw [headV, h]
theorem headV_some {l : List UInt8} {a : Nat} {h : Hd} (hh : headS l = some h) : headV l a = .tuple #[.agg (hcs h a).toArray, .bool true] := by rw [headV, hh]
theorem z5_one : ∀ v ∈ z5, v.oneCell' = true := by
  intro v hv
  simp only [z5, List.mem_cons, List.not_mem_nil, or_false] at hv
  rcases hv with rfl | rfl | rfl | rfl | rfl <;> rfl
theorem headOf_results : Tryd.f28.results = #[.cell 4 39, .tmp 5] := rfl

section
variable {G : Nat → Prop} {w : World} {b : Nat} {l : List UInt8}
set_option maxHeartbeats 400000 in
theorem take_short (h : Opn G w b l none) (hG : G w.heap.size) (n : Nat) (hw : wdB n = true) (hn : l.length < n) :
    Calls Tryd.prog 42 #[.pointer (some ⟨b, 0, none⟩), .int .i64 n] w fun e w' => e = .returned (.int .u64 0) ∧ Opn G w' b l (some 3) ∧ Kp (fun k => k = b) w w' := by
  have H := Lib.hid h
  have HN := Lib.hid hn
  clear h hn
  go_enter Tryd.func42, Tryd.ntmps42
  go_wp2_with fail
  refine (isWidth_any _ _).mono ?_
  rintro e w1 ⟨rfl, rfl⟩
  go_wp2_with fail
  refine (read_num_short H.out hG n (.inr (by have := HN.out; omega))).mono ?_
  rintro e w1 ⟨rfl, ho, hk⟩
  have Ho := Lib.hid ho
  have Hk := Lib.hid hk
  clear ho hk
  go_wp2_with fail
  go_ret
  exact ⟨rfl, Ho.out, Hk.out⟩
set_option maxHeartbeats 400000 in
theorem take_failed {e0 : Int} (h : Opn G w b l (some e0)) (he : e0 ≠ 0) (n : Nat) (hw : wdB n = true) :
    Calls Tryd.prog 42 #[.pointer (some ⟨b, 0, none⟩), .int .i64 n] w fun e w' => e = .returned (.int .u64 0) ∧ Opn G w' b l (some e0) ∧ Kp (fun k => k = b) w w' := by
  have H := Lib.hid h
  have HE := Lib.hid he
  clear h he
  go_enter Tryd.func42, Tryd.ntmps42
  go_wp2_with fail
  refine (isWidth_any _ _).mono ?_
  rintro e w1 ⟨rfl, rfl⟩
  go_wp2_with fail
  refine (read_num_failed H.out HE.out n).mono ?_
  rintro e w1 ⟨rfl, ho, hk⟩
  have Ho := Lib.hid ho
  have Hk := Lib.hid hk
  clear ho hk
  go_wp2_with fail
  go_ret
  exact ⟨rfl, Ho.out, Hk.out⟩
set_option maxHeartbeats 400000 in
theorem oname_failed {e0 : Int} (h : Opn G w b [] (some e0)) (he : e0 ≠ 0) :
    Calls Tryd.prog 43 #[.pointer (some ⟨b, 0, none⟩)] w fun e w' => e = .returned (.string ⟨#[]⟩) ∧ Opn G w' b [] (some e0) ∧ Kp (fun k => k = b) w w' := by
  have H := Lib.hid h
  have HE := Lib.hid he
  clear h he
  go_enter Tryd.func43, Tryd.ntmps43
  go_wp2_with fail
  refine (left_any H.out).mono ?_
  rintro e w1 ⟨rfl, rfl⟩
  rw [show ((([] : List UInt8).length : Nat) : Int) = 0 from rfl]
  go_wp2_with fail
  refine (read_name_failed H.out HE.out _).mono ?_
  rintro e w1 ⟨rfl, ho, hk⟩
  have Ho := Lib.hid ho
  have Hk := Lib.hid hk
  clear ho hk
  go_wp2_with fail
  go_ret
  exact ⟨rfl, Ho.out, Hk.out⟩
end

set_option maxRecDepth 100000 in
set_option maxHeartbeats 2000000 in
/-- Of no bytes. -/
theorem headOf_nil (A : Option Addr) (c : Nat) (a : Nat) (w : World) :
    Calls Tryd.prog 28 #[.int .i64 a, .slice A 0 c] w fun e w' => e = .returned (headV [] a) ∧ Kp (fun _ => False) w w' := by
  rw [headV_none headS_nil]
  have B0 := Lib.hid (Box.new w 39 #[.int .u64 0, .int .u64 0, .int .i64 0, .string ⟨#[]⟩, .int .i64 0])
  have K0 := Lib.hid ((Kp.refl (fun _ => False) w).alloc (.cells #[.int .u64 0, .int .u64 0, .int .i64 0, .string ⟨#[]⟩, .int .i64 0] 39))
  have hz : (w.alloc (.cells #[.int .u64 0, .int .u64 0, .int .i64 0, .string ⟨#[]⟩, .int .i64 0] 39)).heap.size = w.heap.size + 1 := by simp
  go_enter Tryd.func28, Tryd.ntmps28
  go_upto_region 1 with fail
  generalize w.alloc (.cells #[.int .u64 0, .int .u64 0, .int .i64 0, .string ⟨#[]⟩, .int .i64 0] 39) = w0 at *
  go_wp2_with fail
  refine (of_any (fun k => w.heap.size + 1 ≤ k) w0 (fun k hk => by omega) A 0 c [] rfl (.inl rfl) (by decide)).mono ?_
  rintro e w1 ⟨o, rfl, hob, ho, hk⟩
  have O1 := Lib.hid ho
  have K1 := Lib.hid (K0.out.trans hk)
  have B1 := Lib.hid (B0.out.kp hk (fun e => e))
  clear ho hk
  have hs1 := B1.out.lt
  go_wp2_with fail
  refine (take_short O1.out (by show w.heap.size + 1 ≤ _; omega) 8 rfl (by decide)).mono ?_
  rintro e w2 ⟨rfl, ho, hk⟩
  have O2 := Lib.hid ho
  have B2 := Lib.hid (B1.out.kp hk (fun e => by omega))
  have K2 := Lib.hid (K1.out.trans_new hk (fun b e => .inl (by omega)))
  clear ho hk
  go_wp2_with fail
  refine (take_failed O2.out (by decide) 8 rfl).mono ?_
  rintro e w3 ⟨rfl, ho, hk⟩
  have O3 := Lib.hid ho
  have B3 := Lib.hid (B2.out.kp hk (fun e => by omega))
  have K3 := Lib.hid (K2.out.trans_new hk (fun b e => .inl (by omega)))
  clear ho hk
  go_wp2_with fail
  refine (take_failed O3.out (by decide) 2 rfl).mono ?_
  rintro e w4 ⟨rfl, ho, hk⟩
  have O4 := Lib.hid ho
  have B4 := Lib.hid (B3.out.kp hk (fun e => by omega))
  have K4 := Lib.hid (K3.out.trans_new hk (fun b e => .inl (by omega)))
  clear ho hk
  go_wp2_with fail
  refine (oname_failed O4.out (by decide)).mono ?_
  rintro e w5 ⟨rfl, ho, hk⟩
  have B5 := Lib.hid (B4.out.kp hk (fun e => by omega))
  have K5 := Lib.hid (K4.out.trans_new hk (fun b e => .inl (by omega)))
  clear ho hk
  have B6 := Lib.hid (B5.out.alloc (.cells #[.int .u64 0, .int .u64 0, .int .i64 0, .string ⟨#[]⟩, .int .i64 a] 39))
  have K6 := Lib.hid (K5.out.alloc (.cells #[.int .u64 0, .int .u64 0, .int .i64 0, .string ⟨#[]⟩, .int .i64 a] 39))
  have G6 := Lib.hid (Box.new w5 39 #[.int .u64 0, .int .u64 0, .int .i64 0, .string ⟨#[]⟩, .int .i64 a])
  have hg := B5.out.lt
  go_upto_region 3 with fail
  generalize w5.alloc (.cells #[.int .u64 0, .int .u64 0, .int .i64 0, .string ⟨#[]⟩, .int .i64 a] 39) = w6 at *
  generalize w5.heap.size = g at *
  have c2 := G6.out.cell 2
  simp at c2
  go_wp2_with fail
  refine (maySectors_any 0 w6).mono ?_
  rintro e w7 ⟨rfl, rfl⟩
  rw [show secsB 0 = false from rfl]
  go_wp2_with (first | (refine wpList_store_box rfl 39 (.tmp 4) (.tmp 38) rfl w.heap.size [.int .u64 0, .int .u64 0, .int .i64 0, .string ⟨#[]⟩, .int .i64 0] rfl rfl B6.out rfl info_head z5_one ?_; intro W hb hk) | fail)
  have KF : Kp (fun _ => False) w W := K6.out.trans_new hk (fun b e => .inl (by omega))
  refine bodyPost_ret (v := .tuple #[.agg #[.int .u64 0, .int .u64 0, .int .i64 0, .string ⟨#[]⟩, .int .i64 0], .bool false]) ?_ rfl ⟨rfl, KF⟩
  exact results_two headOf_results _ _ w.heap.size 39 _ (0, 0) _ rfl hb Tryd.underlying39 rfl info_head

set_option maxRecDepth 100000 in
set_option maxHeartbeats 4000000 in
theorem headOf_whole (A : Option Addr) (c : Nat) (l : List UInt8) (a : Nat) (w : World) (h : Rd w A l) (ht : Tbl w) (hl : l.length = 512) :
    Calls Tryd.prog 28 #[.int .i64 a, .slice A 512 c] w fun e w' => e = .returned (headV l a) ∧ Kp (fun _ => False) w w' := by
  have H := Lib.hid h
  have HT := Lib.hid ht
  have HL := Lib.hid hl
  have hx18 : l.drop 18 = (l.getD 18 0) :: l.drop 19 := by
    rw [List.drop_eq_getElem_cons (by omega)]
    simp [List.getD, hl]
  have HX := Lib.hid hx18
  clear h ht hl hx18
  have B0 := Lib.hid (Box.new w 39 #[.int .u64 0, .int .u64 0, .int .i64 0, .string ⟨#[]⟩, .int .i64 0])
  have K0 := Lib.hid ((Kp.refl (fun _ => False) w).alloc (.cells #[.int .u64 0, .int .u64 0, .int .i64 0, .string ⟨#[]⟩, .int .i64 0] 39))
  have hz : (w.alloc (.cells #[.int .u64 0, .int .u64 0, .int .i64 0, .string ⟨#[]⟩, .int .i64 0] 39)).heap.size = w.heap.size + 1 := by simp
  go_enter Tryd.func28, Tryd.ntmps28
  go_upto_region 1 with fail
  generalize w.alloc (.cells #[.int .u64 0, .int .u64 0, .int .i64 0, .string ⟨#[]⟩, .int .i64 0] 39) = w0 at *
  go_wp2_with fail
  refine (of_any (fun k => w.heap.size + 1 ≤ k) w0 (fun k hk => by omega) A 512 c l HL.out (H.out.kp K0.out (fun _ _ e => e)) (by rw [HL.out]; decide)).mono ?_
  rintro e w1 ⟨o, rfl, hob, ho, hk⟩
  have O1 := Lib.hid ho
  have K1 := Lib.hid (K0.out.trans hk)
  have B1 := Lib.hid (B0.out.kp hk (fun e => e))
  clear ho hk
  have hs1 := B1.out.lt
  go_wp2_with fail
  refine (take_fine O1.out 8 rfl (by rw [HL.out]; decide)).mono ?_
  rintro e w2 ⟨rfl, ho, hk⟩
  obtain ⟨kG, hkG⟩ : ∃ q, kg l = q := ⟨_, rfl⟩
  rw [show numN (l.take 8) = kG from hkG]
  have HG := Lib.hid hkG
  clear hkG
  have O2 := Lib.hid ho
  have B2 := Lib.hid (B1.out.kp hk (fun e => by omega))
  have K2 := Lib.hid (K1.out.trans_new hk (fun b e => .inl (by omega)))
  clear ho hk
  go_wp2_with fail
  refine (take_fine O2.out 8 rfl (by rw [List.length_drop, HL.out]; decide)).mono ?_
  rintro e w3 ⟨rfl, ho, hk⟩
  obtain ⟨kF, hkF⟩ : ∃ q, kf l = q := ⟨_, rfl⟩
  rw [show numN ((l.drop 8).take 8) = kF from hkF]
  rw [List.drop_drop] at ho
  have HF := Lib.hid hkF
  clear hkF
  have O3 := Lib.hid ho
  have B3 := Lib.hid (B2.out.kp hk (fun e => by omega))
  have K3 := Lib.hid (K2.out.trans_new hk (fun b e => .inl (by omega)))
  clear ho hk
  go_wp2_with fail
  refine (take_fine O3.out 2 rfl (by rw [List.length_drop, HL.out]; decide)).mono ?_
  rintro e w4 ⟨rfl, ho, hk⟩
  obtain ⟨kN, hkN⟩ : ∃ q, kn l = q := ⟨_, rfl⟩
  rw [show numN ((l.drop (8 + 8)).take 2) = kN from hkN]
  rw [List.drop_drop] at ho
  have hnl : kN < 65536 := by
    rw [← hkN]
    exact Nat.lt_of_lt_of_le (numN_take_lt _ 2) (by decide)
  have hwn : IntKind.i64.wrap (kN : Int) = kN := IntWalk.i64_in _ (by omega)
  have HN := Lib.hid hkN
  clear hkN
  have O4 := Lib.hid ho
  have B4 := Lib.hid (B3.out.kp hk (fun e => by omega))
  have K4 := Lib.hid (K3.out.trans_new hk (fun b e => .inl (by omega)))
  clear ho hk
  go_wp2_with fail
  rw [show l.drop (8 + 8 + 2) = (l.getD 18 0) :: l.drop 19 from HX.out] at O4
  obtain ⟨x, hx⟩ : ∃ x, l.getD 18 0 = x := ⟨_, rfl⟩
  rw [hx] at O4
  have hx8 := x.toNat_lt
  refine (oname_fine O4.out (by rw [List.length_drop, HL.out]; omega)).mono ?_
  rintro e w5 ⟨rfl, ho, hk⟩
  obtain ⟨tx, htx⟩ : ∃ tx, kt l = tx := ⟨_, rfl⟩
  have hkk : kk l = x.toNat := by rw [kk, hx]
  rw [show (l.drop 19).take x.toNat = tx by rw [← htx, kt, hkk]]
  have htl : tx.length = kk l := by
    rw [← htx, kt, List.length_take, List.length_drop, HL.out, hkk]
    omega
  have HTX := Lib.hid htx
  have HTL := Lib.hid htl
  have HHD := Lib.hid (show khd l = ⟨kG, kF, kN, tx⟩ by rw [khd, HG.out, HF.out, HN.out, htx])
  have B5 := Lib.hid (B4.out.kp hk (fun e => by omega))
  have K5 := Lib.hid (K4.out.trans_new hk (fun b e => .inl (by omega)))
  clear ho hk htx hkk htl hx hx8
  have B6 := Lib.hid (B5.out.alloc (.cells #[.int .u64 kG, .int .u64 kF, .int .i64 kN, .string ⟨tx.toArray⟩, .int .i64 a] 39))
  have K6 := Lib.hid (K5.out.alloc (.cells #[.int .u64 kG, .int .u64 kF, .int .i64 kN, .string ⟨tx.toArray⟩, .int .i64 a] 39))
  have G6 := Lib.hid (Box.new w5 39 #[.int .u64 kG, .int .u64 kF, .int .i64 kN, .string ⟨tx.toArray⟩, .int .i64 a])
  have hg := B5.out.lt
  go_upto_region 3 with fail
  generalize w5.alloc (.cells #[.int .u64 kG, .int .u64 kF, .int .i64 kN, .string ⟨tx.toArray⟩, .int .i64 a] 39) = w6 at *
  generalize w5.heap.size = g at *
  have c2 := G6.out.cell 2
  have c3 := G6.out.cell 3
  simp at c2 c3
  have hS : headS l = if 512 = 512 ∧ 96 ≤ kN ∧ kN ≤ 512 ∧ tx.length ≤ 64 ∧ hsec ⟨kG, kF, kN, tx⟩ = l then some ⟨kG, kF, kN, tx⟩ else none := by
    rw [headS, HL.out, HN.out, ← HTL.out, HHD.out]
  have HS := Lib.hid hS
  clear hS
  rcases hsb : secsB (kN : Int) with _ | _
  · have HV := Lib.hid (headV_none (l := l) (a := a) (by
      rw [HS.out, if_neg]
      rintro ⟨_, h1, h2, _⟩
      have : secsB (kN : Int) = true := by simp only [secsB, Bool.and_eq_true, decide_eq_true_eq]; omega
      rw [this] at hsb
      cases hsb))
    go_wp2_with fail
    refine (maySectors_any kN w6).mono ?_
    rintro e w7 ⟨rfl, rfl⟩
    rw [hsb]
    clear hsb c2 c3
    go_wp2_with (first | (refine wpList_store_box rfl 39 (.tmp 4) (.tmp 38) rfl w.heap.size [.int .u64 0, .int .u64 0, .int .i64 0, .string ⟨#[]⟩, .int .i64 0] rfl rfl B6.out rfl info_head z5_one ?_; intro W hb hk) | fail)
    have KF : Kp (fun _ => False) w W := K6.out.trans_new hk (fun b e => .inl (by omega))
    rw [HV.out]
    refine bodyPost_ret (v := .tuple #[.agg #[.int .u64 0, .int .u64 0, .int .i64 0, .string ⟨#[]⟩, .int .i64 0], .bool false]) ?_ rfl ⟨rfl, KF⟩
    exact results_two headOf_results _ _ w.heap.size 39 _ (0, 0) _ rfl hb Tryd.underlying39 rfl info_head
  · have hsb' : 96 ≤ kN ∧ kN ≤ 512 := by
      simp only [secsB, Bool.and_eq_true, decide_eq_true_eq] at hsb
      omega
    have HSB := Lib.hid hsb'
    clear hsb'
    rcases hnb : noteB tx with _ | _
    · have HV := Lib.hid (headV_none (l := l) (a := a) (by
        rw [HS.out, if_neg]
        rintro ⟨_, _, _, h3, _⟩
        have : noteB tx = true := decide_eq_true h3
        rw [this] at hnb
        cases hnb))
      go_wp2_with fail
      refine (maySectors_any kN w6).mono ?_
      rintro e w7 ⟨rfl, rfl⟩
      rw [hsb]
      go_wp2_with fail
      refine (mayNote_any tx w6).mono ?_
      rintro e w7 ⟨rfl, rfl⟩
      rw [hnb]
      clear hsb hnb c2 c3
      go_wp2_with (first | (refine wpList_store_box rfl 39 (.tmp 4) (.tmp 38) rfl w.heap.size [.int .u64 0, .int .u64 0, .int .i64 0, .string ⟨#[]⟩, .int .i64 0] rfl rfl B6.out rfl info_head z5_one ?_; intro W hb hk) | fail)
      have KF : Kp (fun _ => False) w W := K6.out.trans_new hk (fun b e => .inl (by omega))
      rw [HV.out]
      refine bodyPost_ret (v := .tuple #[.agg #[.int .u64 0, .int .u64 0, .int .i64 0, .string ⟨#[]⟩, .int .i64 0], .bool false]) ?_ rfl ⟨rfl, KF⟩
      exact results_two headOf_results _ _ w.heap.size 39 _ (0, 0) _ rfl hb Tryd.underlying39 rfl info_head
    · have htl64 : tx.length ≤ 64 := of_decide_eq_true hnb
      have hok : (⟨kG, kF, kN, tx⟩ : Hd).ok := ⟨by
          rw [← HG.out]
          exact Nat.lt_of_lt_of_le (numN_take_lt _ 8) (by decide), by
          rw [← HF.out]
          exact Nat.lt_of_lt_of_le (numN_take_lt _ 8) (by decide), HSB.out.1, HSB.out.2, htl64⟩
      have HOK := Lib.hid hok
      go_wp2_with fail
      refine (maySectors_any kN w6).mono ?_
      rintro e w7 ⟨rfl, rfl⟩
      rw [hsb]
      go_wp2_with fail
      refine (mayNote_any tx w6).mono ?_
      rintro e w7 ⟨rfl, rfl⟩
      rw [hnb]
      clear hsb hnb htl64 hok
      have c0 := G6.out.cell 0
      have c1 := G6.out.cell 1
      have c4 := G6.out.cell 4
      simp at c0 c1 c4
      go_wp2_with fail
      clear c0 c1 c2 c3 c4
      refine (hbytes_any ⟨kG, kF, kN, tx⟩ a w6 HOK.out (HT.out.kp K6.out (fun e => e))).mono ?_
      rintro e w7 ⟨g7, c7, rfl, _, _, hown, hg7, hk⟩
      have B7 := Lib.hid (B6.out.kp hk (fun e => e))
      have G7 := Lib.hid (G6.out.kp hk (fun e => e))
      have K7 := Lib.hid (K6.out.trans hk)
      have R7 := Lib.hid (Rd.of_own hown)
      have A7 := Lib.hid (H.out.kp K7.out (fun _ _ e => e))
      have hsl := Lib.hid (hsec_length ⟨kG, kF, kN, tx⟩ HOK.out.note_)
      clear hown hk
      go_wp2_with fail
      refine (equal_any A (some ⟨g7, 0, none⟩) c c7 512 512 l (hsec ⟨kG, kF, kN, tx⟩) w7 HL.out hsl.out A7.out R7.out).mono ?_
      rintro e w8 ⟨rfl, rfl⟩
      by_cases heq : l = hsec ⟨kG, kF, kN, tx⟩
      · have hE : (l == hsec ⟨kG, kF, kN, tx⟩) = true := by rw [← heq]; simp
        rw [hE]
        have HV := Lib.hid (headV_some (l := l) (a := a) (h := ⟨kG, kF, kN, tx⟩) (by
          rw [HS.out, if_pos ⟨by trivial, HSB.out.1, HSB.out.2, HOK.out.note_, heq.symm⟩]))
        clear hE heq
        go_wp2_with (first | (refine wpList_load_mid rfl 39 (.tmp 7) rfl g 0 rfl [.int .u64 kG, .int .u64 kF, .int .i64 kN, .string ⟨tx.toArray⟩, .int .i64 a] _ (Box.range' (L := [.int .u64 kG, .int .u64 kF, .int .i64 kN, .string ⟨tx.toArray⟩, .int .i64 a]) G7.out) Tryd.underlying39 rfl info_head ?_) | (refine wpList_store_box rfl 39 (.tmp 4) (.tmp 39) rfl w.heap.size [.int .u64 kG, .int .u64 kF, .int .i64 kN, .string ⟨tx.toArray⟩, .int .i64 a] rfl rfl B7.out rfl info_head (hcs_one ⟨kG, kF, kN, tx⟩ a) ?_; intro W hb hk) | fail)
        have KF : Kp (fun _ => False) w W := K7.out.trans_new hk (fun b e => .inl (by omega))
        rw [HV.out]
        refine bodyPost_ret (v := .tuple #[.agg #[.int .u64 kG, .int .u64 kF, .int .i64 kN, .string ⟨tx.toArray⟩, .int .i64 a], .bool true]) ?_ rfl ⟨rfl, KF⟩
        exact results_two headOf_results _ _ w.heap.size 39 _ (0, 0) _ rfl hb Tryd.underlying39 rfl info_head
      · have hE : (l == hsec ⟨kG, kF, kN, tx⟩) = false := by simpa using heq
        rw [hE]
        have HV := Lib.hid (headV_none (l := l) (a := a) (by
          rw [HS.out, if_neg (fun h => heq h.2.2.2.2.symm)]))
        clear hE heq
        go_wp2_with (first | (refine wpList_store_box rfl 39 (.tmp 4) (.tmp 38) rfl w.heap.size [.int .u64 0, .int .u64 0, .int .i64 0, .string ⟨#[]⟩, .int .i64 0] rfl rfl B7.out rfl info_head z5_one ?_; intro W hb hk) | fail)
        have KF : Kp (fun _ => False) w W := K7.out.trans_new hk (fun b e => .inl (by omega))
        rw [HV.out]
        refine bodyPost_ret (v := .tuple #[.agg #[.int .u64 0, .int .u64 0, .int .i64 0, .string ⟨#[]⟩, .int .i64 0], .bool false]) ?_ rfl ⟨rfl, KF⟩
        exact results_two headOf_results _ _ w.heap.size 39 _ (0, 0) _ rfl hb Tryd.underlying39 rfl info_head

theorem headOf_any (A : Option Addr) (c n : Nat) (l : List UInt8) (a : Nat) (w : World) (h : Rd w A l) (ht : Tbl w) (hn : l.length = n) (hl : n = 512 ∨ n = 0) :
    Calls Tryd.prog 28 #[.int .i64 a, .slice A n c] w fun e w' => e = .returned (headV l a) ∧ Kp (fun _ => False) w w' := by
  rcases hl with rfl | rfl
  · exact headOf_whole A c l a w h ht hn
  · obtain rfl := List.eq_nil_of_length_eq_zero hn
    exact headOf_nil A c a w
end Go.Proofs.YtfcljcikajaedaaDoor
