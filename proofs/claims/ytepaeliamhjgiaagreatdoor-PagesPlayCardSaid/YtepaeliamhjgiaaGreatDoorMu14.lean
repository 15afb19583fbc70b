/- The law of pages, part 14 of 55: WlHead DkLaw. -/
import Derived.Test.YtepaeliamhjgiaaGreatDoorMu1
import Derived.Test.YtepaeliamhjgiaaGreatDoorMu13
import Derived.Test.YtepaeliamhjgiaaGreatDoorMu11
import Derived.Test.YtepaeliamhjgiaaGreatDoorMu7
set_option maxHeartbeats 16000000
set_option maxRecDepth 100000
namespace Go.Proofs.YtepaeliamhjgiaaGreatDoor
open Go.RowKit
def z5 : List Value := [.int .u64 0, .int .u64 0, .int .i64 0, .string ⟨#[]⟩, .int .i64 0]
def headV (l : List UInt8) (a : Nat) : Value := match headS l with
 |some h => .tuple #[.agg (hcs h a).toArray, .bool true]
 |none => .tuple #[.agg z5.toArray, .bool false]
theorem headV_none {l : List UInt8} {a : Nat} (h : headS l = none) : headV l a = .tuple #[.agg z5.toArray, .bool false] := by rw [headV, h]
theorem headV_some {l : List UInt8} {a : Nat} {h : Hd} (hh : headS l = some h) : headV l a = .tuple #[.agg (hcs h a).toArray, .bool true] := by rw [headV, hh]
theorem z5_one : ∀ v ∈ z5, v.oneCell' = true := by
 intro v hv
 simp only [z5, List.mem_cons, List.not_mem_nil, or_false] at hv
 rcases hv with rfl | rfl | rfl | rfl | rfl <;> rfl
theorem headOf_results : Tryz.f134.results = #[.cell 4 122, .tmp 5] := rfl
section
variable {G : Nat -> Prop} {w : World} {b : Nat} {l : List UInt8}
theorem take_short (h : Opn G w b l none) (hG : G w.heap.size) (n : Nat) (hw : wdB n = true) (hn : l.length < n) :
  Calls Tryz.prog 91 #[.pointer (some ⟨b, 0, none⟩), .int .i64 n] w fun e w' => e = .returned (.int .u64 0) /\ Opn G w' b l (some 3) /\ Kp (fun k => k = b) w w' := by
 have H := hHd h
 have HN := hHd hn
 clear h hn
 go_enter Tryz.func91, Tryz.ntmps91
 go_wp2_with fail
 refine (isWidth_any _ _).mono ?_
 rintro e w1 ⟨rfl, rfl⟩
 go_wp2_with fail
 refine (read_num_short H.out hG n (.inr (by have := HN.out; omega))).mono ?_
 rintro e w1 ⟨rfl, ho, hk⟩
 have Ho := hHd ho
 have Hk := hHd hk
 clear ho hk
 go_wp2_with fail
 go_ret
 exact ⟨rfl, Ho.out, Hk.out⟩
theorem take_failed {e0 : Int} (h : Opn G w b l (some e0)) (he : e0 ≠ 0) (n : Nat) (hw : wdB n = true) :
  Calls Tryz.prog 91 #[.pointer (some ⟨b, 0, none⟩), .int .i64 n] w fun e w' => e = .returned (.int .u64 0) /\ Opn G w' b l (some e0) /\ Kp (fun k => k = b) w w' := by
 have H := hHd h
 have HE := hHd he
 clear h he
 go_enter Tryz.func91, Tryz.ntmps91
 go_wp2_with fail
 refine (isWidth_any _ _).mono ?_
 rintro e w1 ⟨rfl, rfl⟩
 go_wp2_with fail
 refine (read_num_failed H.out HE.out n).mono ?_
 rintro e w1 ⟨rfl, ho, hk⟩
 have Ho := hHd ho
 have Hk := hHd hk
 clear ho hk
 go_wp2_with fail
 go_ret
 exact ⟨rfl, Ho.out, Hk.out⟩
theorem oname_failed {e0 : Int} (h : Opn G w b [] (some e0)) (he : e0 ≠ 0) :
  Calls Tryz.prog 157 #[.pointer (some ⟨b, 0, none⟩)] w fun e w' => e = .returned (.string ⟨#[]⟩) /\ Opn G w' b [] (some e0) /\ Kp (fun k => k = b) w w' := by
 have H := hHd h
 have HE := hHd he
 clear h he
 go_enter Tryz.func157, Tryz.ntmps157
 go_wp2_with fail
 refine (left_any H.out).mono ?_
 rintro e w1 ⟨rfl, rfl⟩
 rw [show ((([] : List UInt8).length : Nat) : Int) = 0 from rfl]
 go_wp2_with fail
 refine (read_name_failed H.out HE.out _).mono ?_
 rintro e w1 ⟨rfl, ho, hk⟩
 have Ho := hHd ho
 have Hk := hHd hk
 clear ho hk
 go_wp2_with fail
 go_ret
 exact ⟨rfl, Ho.out, Hk.out⟩
end
theorem headOf_nil (A : Option Addr) (c : Nat) (a : Nat) (w : World) :
  Calls Tryz.prog 134 #[.int .i64 a, .slice A 0 c] w fun e w' => e = .returned (headV [] a) /\ Kp (fun _ => False) w w' := by
 rw [headV_none headS_nil]
 have B0 := hHd (Box.new w 122 #[.int .u64 0, .int .u64 0, .int .i64 0, .string ⟨#[]⟩, .int .i64 0])
 have K0 := hHd ((Kp.refl (fun _ => False) w).alloc (.cells #[.int .u64 0, .int .u64 0, .int .i64 0, .string ⟨#[]⟩, .int .i64 0] 122))
 have hz : (w.alloc (.cells #[.int .u64 0, .int .u64 0, .int .i64 0, .string ⟨#[]⟩, .int .i64 0] 122)).heap.size = w.heap.size + 1 := by simp
 go_enter Tryz.func134, Tryz.ntmps134
 go_upto_region 1 with fail
 generalize w.alloc (.cells #[.int .u64 0, .int .u64 0, .int .i64 0, .string ⟨#[]⟩, .int .i64 0] 122) = w0 at *
 go_wp2_with fail
 refine (of_any (fun k => w.heap.size + 1 <= k) w0 (fun k hk => by omega) A 0 c [] rfl (.inl rfl) (by decide)).mono ?_
 rintro e w1 ⟨o, rfl, hob, ho, hk⟩
 have O1 := hHd ho
 have K1 := hHd (K0.out.trans hk)
 have B1 := hHd (B0.out.kp hk (fun e => e))
 clear ho hk
 have hs1 := B1.out.lt
 go_wp2_with fail
 refine (take_short O1.out (by show w.heap.size + 1 <= _; omega) 8 rfl (by decide)).mono ?_
 rintro e w2 ⟨rfl, ho, hk⟩
 have O2 := hHd ho
 have B2 := hHd (B1.out.kp hk (fun e => by omega))
 have K2 := hHd (K1.out.trans_new hk (fun b e => .inl (by omega)))
 clear ho hk
 go_wp2_with fail
 refine (take_failed O2.out (by decide) 8 rfl).mono ?_
 rintro e w3 ⟨rfl, ho, hk⟩
 have O3 := hHd ho
 have B3 := hHd (B2.out.kp hk (fun e => by omega))
 have K3 := hHd (K2.out.trans_new hk (fun b e => .inl (by omega)))
 clear ho hk
 go_wp2_with fail
 refine (take_failed O3.out (by decide) 2 rfl).mono ?_
 rintro e w4 ⟨rfl, ho, hk⟩
 have O4 := hHd ho
 have B4 := hHd (B3.out.kp hk (fun e => by omega))
 have K4 := hHd (K3.out.trans_new hk (fun b e => .inl (by omega)))
 clear ho hk
 go_wp2_with fail
 refine (oname_failed O4.out (by decide)).mono ?_
 rintro e w5 ⟨rfl, ho, hk⟩
 have B5 := hHd (B4.out.kp hk (fun e => by omega))
 have K5 := hHd (K4.out.trans_new hk (fun b e => .inl (by omega)))
 clear ho hk
 have B6 := hHd (B5.out.alloc (.cells #[.int .u64 0, .int .u64 0, .int .i64 0, .string ⟨#[]⟩, .int .i64 a] 122))
 have K6 := hHd (K5.out.alloc (.cells #[.int .u64 0, .int .u64 0, .int .i64 0, .string ⟨#[]⟩, .int .i64 a] 122))
 have G6 := hHd (Box.new w5 122 #[.int .u64 0, .int .u64 0, .int .i64 0, .string ⟨#[]⟩, .int .i64 a])
 have hg := B5.out.lt
 go_upto_region 3 with fail
 generalize w5.alloc (.cells #[.int .u64 0, .int .u64 0, .int .i64 0, .string ⟨#[]⟩, .int .i64 a] 122) = w6 at *
 generalize w5.heap.size = g at *
 have c2 := G6.out.cell 2
 simp at c2
 go_wp2_with fail
 refine (maySectors_any 0 w6).mono ?_
 rintro e w7 ⟨rfl, rfl⟩
 rw [show secsB 0 = false from rfl]
 go_wp2_with (first | (refine wpList_store_box rfl 122 (.tmp 4) (.tmp 38) rfl w.heap.size [.int .u64 0, .int .u64 0, .int .i64 0, .string ⟨#[]⟩, .int .i64 0] rfl rfl B6.out rfl info_head z5_one ?_; intro W hb hk) | fail)
 have KF : Kp (fun _ => False) w W := K6.out.trans_new hk (fun b e => .inl (by omega))
 refine bodyPost_ret (v := .tuple #[.agg #[.int .u64 0, .int .u64 0, .int .i64 0, .string ⟨#[]⟩, .int .i64 0], .bool false]) ?_ rfl ⟨rfl, KF⟩
 exact results_two headOf_results _ _ w.heap.size 122 _ (0, 0) _ rfl hb Tryz.underlying122 rfl info_head
theorem headOf_whole (A : Option Addr) (c : Nat) (l : List UInt8) (a : Nat) (w : World) (h : Rd w A l) (ht : Tbl w) (hl : l.length = 512) :
  Calls Tryz.prog 134 #[.int .i64 a, .slice A 512 c] w fun e w' => e = .returned (headV l a) /\ Kp (fun _ => False) w w' := by
 have H := hHd h
 have HT := hHd ht
 have HL := hHd hl
 have hx18 : l.drop 18 = (l.getD 18 0) :: l.drop 19 := by
  rw [List.drop_eq_getElem_cons (by omega)]
  simp [List.getD, hl]
 have HX := hHd hx18
 clear h ht hl hx18
 have B0 := hHd (Box.new w 122 #[.int .u64 0, .int .u64 0, .int .i64 0, .string ⟨#[]⟩, .int .i64 0])
 have K0 := hHd ((Kp.refl (fun _ => False) w).alloc (.cells #[.int .u64 0, .int .u64 0, .int .i64 0, .string ⟨#[]⟩, .int .i64 0] 122))
 have hz : (w.alloc (.cells #[.int .u64 0, .int .u64 0, .int .i64 0, .string ⟨#[]⟩, .int .i64 0] 122)).heap.size = w.heap.size + 1 := by simp
 go_enter Tryz.func134, Tryz.ntmps134
 go_upto_region 1 with fail
 generalize w.alloc (.cells #[.int .u64 0, .int .u64 0, .int .i64 0, .string ⟨#[]⟩, .int .i64 0] 122) = w0 at *
 go_wp2_with fail
 refine (of_any (fun k => w.heap.size + 1 <= k) w0 (fun k hk => by omega) A 512 c l HL.out (H.out.kp K0.out (fun _ _ e => e)) (by rw [HL.out]; decide)).mono ?_
 rintro e w1 ⟨o, rfl, hob, ho, hk⟩
 have O1 := hHd ho
 have K1 := hHd (K0.out.trans hk)
 have B1 := hHd (B0.out.kp hk (fun e => e))
 clear ho hk
 have hs1 := B1.out.lt
 go_wp2_with fail
 refine (take_fine O1.out 8 rfl (by rw [HL.out]; decide)).mono ?_
 rintro e w2 ⟨rfl, ho, hk⟩
 obtain ⟨kG, hkG⟩ : ∃ q, kg l = q := ⟨_, rfl⟩
 rw [show numN (l.take 8) = kG from hkG]
 have HG := hHd hkG
 clear hkG
 have O2 := hHd ho
 have B2 := hHd (B1.out.kp hk (fun e => by omega))
 have K2 := hHd (K1.out.trans_new hk (fun b e => .inl (by omega)))
 clear ho hk
 go_wp2_with fail
 refine (take_fine O2.out 8 rfl (by rw [List.length_drop, HL.out]; decide)).mono ?_
 rintro e w3 ⟨rfl, ho, hk⟩
 obtain ⟨kF, hkF⟩ : ∃ q, kf l = q := ⟨_, rfl⟩
 rw [show numN ((l.drop 8).take 8) = kF from hkF]
 rw [List.drop_drop] at ho
 have HF := hHd hkF
 clear hkF
 have O3 := hHd ho
 have B3 := hHd (B2.out.kp hk (fun e => by omega))
 have K3 := hHd (K2.out.trans_new hk (fun b e => .inl (by omega)))
 clear ho hk
 go_wp2_with fail
 refine (take_fine O3.out 2 rfl (by rw [List.length_drop, HL.out]; decide)).mono ?_
 rintro e w4 ⟨rfl, ho, hk⟩
 obtain ⟨kN, hkN⟩ : ∃ q, kn l = q := ⟨_, rfl⟩
 rw [show numN ((l.drop (8 + 8)).take 2) = kN from hkN]
 rw [List.drop_drop] at ho
 have hnl : kN < 65536 := by
  rw [<- hkN]
  exact Nat.lt_of_lt_of_le (numN_take_lt _ 2) (by decide)
 have hwn : IntKind.i64.wrap (kN : Int) = kN := IntWalk.i64_in _ (by omega)
 have HN := hHd hkN
 clear hkN
 have O4 := hHd ho
 have B4 := hHd (B3.out.kp hk (fun e => by omega))
 have K4 := hHd (K3.out.trans_new hk (fun b e => .inl (by omega)))
 clear ho hk
 go_wp2_with fail
 rw [show l.drop (8 + 8 + 2) = (l.getD 18 0) :: l.drop 19 from HX.out] at O4
 obtain ⟨x, hx⟩ : ∃ x, l.getD 18 0 = x := ⟨_, rfl⟩
 rw [hx] at O4
 have hx8 := x.toNat_lt
 refine (oname_fine O4.out (by rw [List.length_drop, HL.out]; omega)).mono ?_
 rintro e w5 ⟨rfl, ho, hk⟩
 obtain ⟨tx, htx⟩ : ∃ tx, kt l = tx := ⟨_, rfl⟩
 have hkk : kk l = x.toNat := by rw [kk, hx]
 rw [show (l.drop 19).take x.toNat = tx by rw [<- htx, kt, hkk]]
 have htl : tx.length = kk l := by
  rw [<- htx, kt, List.length_take, List.length_drop, HL.out, hkk]
  omega
 have HTX := hHd htx
 have HTL := hHd htl
 have HHD := hHd (show khd l = ⟨kG, kF, kN, tx⟩ by rw [khd, HG.out, HF.out, HN.out, htx])
 have B5 := hHd (B4.out.kp hk (fun e => by omega))
 have K5 := hHd (K4.out.trans_new hk (fun b e => .inl (by omega)))
 clear ho hk htx hkk htl hx hx8
 have B6 := hHd (B5.out.alloc (.cells #[.int .u64 kG, .int .u64 kF, .int .i64 kN, .string ⟨tx.toArray⟩, .int .i64 a] 122))
 have K6 := hHd (K5.out.alloc (.cells #[.int .u64 kG, .int .u64 kF, .int .i64 kN, .string ⟨tx.toArray⟩, .int .i64 a] 122))
 have G6 := hHd (Box.new w5 122 #[.int .u64 kG, .int .u64 kF, .int .i64 kN, .string ⟨tx.toArray⟩, .int .i64 a])
 have hg := B5.out.lt
 go_upto_region 3 with fail
 generalize w5.alloc (.cells #[.int .u64 kG, .int .u64 kF, .int .i64 kN, .string ⟨tx.toArray⟩, .int .i64 a] 122) = w6 at *
 generalize w5.heap.size = g at *
 have c2 := G6.out.cell 2
 have c3 := G6.out.cell 3
 simp at c2 c3
 have hS : headS l = if 512 = 512 /\ 96 <= kN /\ kN <= 512 /\ tx.length <= 64 /\ hsec ⟨kG, kF, kN, tx⟩ = l then some ⟨kG, kF, kN, tx⟩ else none := by
  rw [headS, HL.out, HN.out, <- HTL.out, HHD.out]
 have HS := hHd hS
 clear hS
 rcases hsb : secsB (kN : Int) with _ | _
 ·have HV := hHd (headV_none (l := l) (a := a) (by
   rw [HS.out, if_neg]
   rintro ⟨_, h1, h2, _⟩
   have : secsB (kN : Int) = true := by simp only [secsB, Bool.and_eq_true, decide_eq_true_eq]; omega
   rw [this] at hsb
   cases hsb))
  go_wp2_with fail
  refine (maySectors_any kN w6).mono ?_
  rintro e w7 ⟨rfl, rfl⟩
  rw [hsb]
  clear hsb c2 c3
  go_wp2_with (first | (refine wpList_store_box rfl 122 (.tmp 4) (.tmp 38) rfl w.heap.size [.int .u64 0, .int .u64 0, .int .i64 0, .string ⟨#[]⟩, .int .i64 0] rfl rfl B6.out rfl info_head z5_one ?_; intro W hb hk) | fail)
  have KF : Kp (fun _ => False) w W := K6.out.trans_new hk (fun b e => .inl (by omega))
  rw [HV.out]
  refine bodyPost_ret (v := .tuple #[.agg #[.int .u64 0, .int .u64 0, .int .i64 0, .string ⟨#[]⟩, .int .i64 0], .bool false]) ?_ rfl ⟨rfl, KF⟩
  exact results_two headOf_results _ _ w.heap.size 122 _ (0, 0) _ rfl hb Tryz.underlying122 rfl info_head
 ·have hsb' : 96 <= kN /\ kN <= 512 := by
   simp only [secsB, Bool.and_eq_true, decide_eq_true_eq] at hsb
   omega
  have HSB := hHd hsb'
  clear hsb'
  rcases hnb : noteB tx with _ | _
  ·have HV := hHd (headV_none (l := l) (a := a) (by
    rw [HS.out, if_neg]
    rintro ⟨_, _, _, h3, _⟩
    have : noteB tx = true := decide_eq_true h3
    rw [this] at hnb
    cases hnb))
   go_wp2_with fail
   refine (maySectors_any kN w6).mono ?_
   rintro e w7 ⟨rfl, rfl⟩
   rw [hsb]
   go_wp2_with fail
   refine (mayNote_any tx w6).mono ?_
   rintro e w7 ⟨rfl, rfl⟩
   rw [hnb]
   clear hsb hnb c2 c3
   go_wp2_with (first | (refine wpList_store_box rfl 122 (.tmp 4) (.tmp 38) rfl w.heap.size [.int .u64 0, .int .u64 0, .int .i64 0, .string ⟨#[]⟩, .int .i64 0] rfl rfl B6.out rfl info_head z5_one ?_; intro W hb hk) | fail)
   have KF : Kp (fun _ => False) w W := K6.out.trans_new hk (fun b e => .inl (by omega))
   rw [HV.out]
   refine bodyPost_ret (v := .tuple #[.agg #[.int .u64 0, .int .u64 0, .int .i64 0, .string ⟨#[]⟩, .int .i64 0], .bool false]) ?_ rfl ⟨rfl, KF⟩
   exact results_two headOf_results _ _ w.heap.size 122 _ (0, 0) _ rfl hb Tryz.underlying122 rfl info_head
  ·have htl64 : tx.length <= 64 := of_decide_eq_true hnb
   have hok : (⟨kG, kF, kN, tx⟩ : Hd).ok := ⟨by
     rw [<- HG.out]
     exact Nat.lt_of_lt_of_le (numN_take_lt _ 8) (by decide), by
     rw [<- HF.out]
     exact Nat.lt_of_lt_of_le (numN_take_lt _ 8) (by decide), HSB.out.1, HSB.out.2, htl64⟩
   have HOK := hHd hok
   go_wp2_with fail
   refine (maySectors_any kN w6).mono ?_
   rintro e w7 ⟨rfl, rfl⟩
   rw [hsb]
   go_wp2_with fail
   refine (mayNote_any tx w6).mono ?_
   rintro e w7 ⟨rfl, rfl⟩
   rw [hnb]
   clear hsb hnb htl64 hok
   have c0 := G6.out.cell 0
   have c1 := G6.out.cell 1
   have c4 := G6.out.cell 4
   simp at c0 c1 c4
   go_wp2_with fail
   clear c0 c1 c2 c3 c4
   refine (hbytes_any ⟨kG, kF, kN, tx⟩ a w6 HOK.out (HT.out.kp K6.out (fun e => e))).mono ?_
   rintro e w7 ⟨g7, c7, rfl, _, _, hown, hg7, hk⟩
   have B7 := hHd (B6.out.kp hk (fun e => e))
   have G7 := hHd (G6.out.kp hk (fun e => e))
   have K7 := hHd (K6.out.trans hk)
   have R7 := hHd (Rd.of_own hown)
   have A7 := hHd (H.out.kp K7.out (fun _ _ e => e))
   have hsl := hHd (hsec_length ⟨kG, kF, kN, tx⟩ HOK.out.note_)
   clear hown hk
   go_wp2_with fail
   refine (equal_any A (some ⟨g7, 0, none⟩) c c7 512 512 l (hsec ⟨kG, kF, kN, tx⟩) w7 HL.out hsl.out A7.out R7.out).mono ?_
   rintro e w8 ⟨rfl, rfl⟩
   by_cases heq : l = hsec ⟨kG, kF, kN, tx⟩
   ·have hE : (l == hsec ⟨kG, kF, kN, tx⟩) = true := by rw [<- heq]; simp
    rw [hE]
    have HV := hHd (headV_some (l := l) (a := a) (h := ⟨kG, kF, kN, tx⟩) (by
     rw [HS.out, if_pos ⟨by trivial, HSB.out.1, HSB.out.2, HOK.out.note_, heq.symm⟩]))
    clear hE heq
    go_wp2_with (first | (refine wpList_load_mid rfl 122 (.tmp 7) rfl g 0 rfl [.int .u64 kG, .int .u64 kF, .int .i64 kN, .string ⟨tx.toArray⟩, .int .i64 a] _ (Box.range' (L := [.int .u64 kG, .int .u64 kF, .int .i64 kN, .string ⟨tx.toArray⟩, .int .i64 a]) G7.out) Tryz.underlying122 rfl info_head ?_) | (refine wpList_store_box rfl 122 (.tmp 4) (.tmp 39) rfl w.heap.size [.int .u64 kG, .int .u64 kF, .int .i64 kN, .string ⟨tx.toArray⟩, .int .i64 a] rfl rfl B7.out rfl info_head (hcs_one ⟨kG, kF, kN, tx⟩ a) ?_; intro W hb hk) | fail)
    have KF : Kp (fun _ => False) w W := K7.out.trans_new hk (fun b e => .inl (by omega))
    rw [HV.out]
    refine bodyPost_ret (v := .tuple #[.agg #[.int .u64 kG, .int .u64 kF, .int .i64 kN, .string ⟨tx.toArray⟩, .int .i64 a], .bool true]) ?_ rfl ⟨rfl, KF⟩
    exact results_two headOf_results _ _ w.heap.size 122 _ (0, 0) _ rfl hb Tryz.underlying122 rfl info_head
   ·have hE : (l == hsec ⟨kG, kF, kN, tx⟩) = false := by simpa using heq
    rw [hE]
    have HV := hHd (headV_none (l := l) (a := a) (by
     rw [HS.out, if_neg (fun h => heq h.2.2.2.2.symm)]))
    clear hE heq
    go_wp2_with (first | (refine wpList_store_box rfl 122 (.tmp 4) (.tmp 38) rfl w.heap.size [.int .u64 0, .int .u64 0, .int .i64 0, .string ⟨#[]⟩, .int .i64 0] rfl rfl B7.out rfl info_head z5_one ?_; intro W hb hk) | fail)
    have KF : Kp (fun _ => False) w W := K7.out.trans_new hk (fun b e => .inl (by omega))
    rw [HV.out]
    refine bodyPost_ret (v := .tuple #[.agg #[.int .u64 0, .int .u64 0, .int .i64 0, .string ⟨#[]⟩, .int .i64 0], .bool false]) ?_ rfl ⟨rfl, KF⟩
    exact results_two headOf_results _ _ w.heap.size 122 _ (0, 0) _ rfl hb Tryz.underlying122 rfl info_head
theorem headOf_any (A : Option Addr) (c n : Nat) (l : List UInt8) (a : Nat) (w : World) (h : Rd w A l) (ht : Tbl w) (hn : l.length = n) (hl : n = 512 \/ n = 0) :
  Calls Tryz.prog 134 #[.int .i64 a, .slice A n c] w fun e w' => e = .returned (headV l a) /\ Kp (fun _ => False) w w' := by
 rcases hl with rfl | rfl
 ·exact headOf_whole A c l a w h ht hn
 ·obtain rfl := List.eq_nil_of_length_eq_zero hn
  exact headOf_nil A c a w
end Go.Proofs.YtepaeliamhjgiaaGreatDoor
namespace Go.Proofs.YtepaeliamhjgiaaGreatDoor
open Go.RowKit Go.Maps
def DT (w : World) (k : Nat) : Prop := w.heap.size <= k \/ (∃ cs fr, w.heap[k]? = some (.cells cs 97 fr)) \/ (∃ cs fr, w.heap[k]? = some (.cells cs 156 fr)) \/ (∃ cs fr, w.heap[k]? = some (.cells cs 158 fr)) \/ (∃ es c, w.heap[k]? = some (.map es c))
def LT (t : TypeId) : Prop := t ≠ 97 /\ t ≠ 156 /\ t ≠ 158
theorem not_DT {w : World} {k : Nat} {cs : Array Value} {t : TypeId} {fr : Nat × Nat} (h : w.heap[k]? = some (.cells cs t fr)) (ht : LT t) : ¬ DT w k := by
 rintro (e | ⟨cs', fr', e⟩ | ⟨cs', fr', e⟩ | ⟨cs', fr', e⟩ | ⟨es, c, e⟩)
 ·rw [Array.getElem?_eq_none e] at h; cases h
 ·rw [e] at h; injection h with h; injection h with _ h2; exact ht.1 h2.symm
 ·rw [e] at h; injection h with h; injection h with _ h2; exact ht.2.1 h2.symm
 ·rw [e] at h; injection h with h; injection h with _ h2; exact ht.2.2 h2.symm
 ·rw [e] at h; cases h
theorem own_block {w : World} {base : Nat} {e : TypeId} {size n : Nat} {v : Value} {xs : List Value} {k : Nat} (ho : w.ownsRow base e size v n xs) (hk : v.ownBlock = some k) : ∃ cur, w.heap[k]? = some (.cells cur e (0, 0)) := by
 rcases ho.2 with ⟨rfl, _⟩ | ⟨g', cap, cur, rfl, _, hh, _⟩
 ·simp [Value.ownBlock] at hk
 ·simp [Value.ownBlock] at hk; subst hk; exact ⟨cur, hh⟩
theorem Dsk.both {B : Nat} {w : World} {b : Nat} {d : Dm} (h : Dsk (fun k => B <= k) w b d) : Dsk (fun k => B <= k /\ DT w k) w b d := by
 obtain ⟨vs, vw, gm, h1, h2⟩ := h
 refine ⟨vs, vw, gm, h1, fun k hk => ⟨h2 k hk, ?_⟩⟩
 rcases hk with rfl | e | e | rfl
 ·exact .inr (.inl ⟨_, _, h1.box⟩)
 ·obtain ⟨cur, hc⟩ := own_block h1.st e; exact .inr (.inr (.inl ⟨_, _, hc⟩))
 ·obtain ⟨cur, hc⟩ := own_block h1.wt e; exact .inr (.inr (.inr (.inl ⟨_, _, hc⟩)))
 ·obtain ⟨n, D, ⟨es, clock, hm, _⟩, _⟩ := h1.nm; exact .inr (.inr (.inr (.inr ⟨_, _, hm⟩)))
theorem Dsk.one {B : Nat} {w W : World} {b : Nat} {d : Dm} (h : Dsk (fun k => B <= k /\ DT W k) w b d) : Dsk (fun k => B <= k) w b d := h.mono fun _ h => h.1
theorem Box.dt {B : Nat} {w w' : World} {g : Nat} {t : TypeId} {cs : Array Value} (h : Box w g t cs) (hk : Kp (fun k => B <= k /\ DT w k) w w') (ht : LT t) : Box w' g t cs := h.kp hk fun e => not_DT h ht e.2
def strs (l : List (List UInt8)) : List Value := l.map fun s => .string ⟨s.toArray⟩
theorem strs_length (l : List (List UInt8)) : (strs l).length = l.length := by simp [strs]
theorem strs_snoc (l : List (List UInt8)) (s : List UInt8) : strs (l ++ [s]) = strs l ++ [.string ⟨s.toArray⟩] := by simp [strs]
structure Lw (B : Nat) (w : World) (gn gy : Nat) (now : List (List UInt8)) (may : List (List (List UInt8))) : Prop where
 bn : B <= gn
 by_ : B <= gy
 nb : Box w gn 9 (strs now).toArray
 rows : ∃ mv : List Value, Box w gy 36 mv.toArray /\ mv.length = may.length /\ (∀ (k : Nat) (v : Value) (l : List (List UInt8)), mv[k]? = some v -> may[k]? = some l -> w.ownsRow B 9 1 v l.length (strs l) /\ v.ownBlock ≠ some gn) /\
  (∀ (i j : Nat) (v v' : Value) (g : Nat), mv[i]? = some v -> mv[j]? = some v' -> v.ownBlock = some g -> v'.ownBlock = some g -> i = j)
section
variable {B : Nat} {w w' : World} {gn gy : Nat} {now : List (List UInt8)} {may : List (List (List UInt8))}
theorem Lw.kp {S : Nat -> Prop} (h : Lw B w gn gy now may) (hk : Kp S w w') (hn : ∀ k cs fr, w.heap[k]? = some (.cells cs 9 fr) \/ w.heap[k]? = some (.cells cs 36 fr) -> ¬ S k) : Lw B w' gn gy now may := by
 obtain ⟨mv, h1, h2, h3, h4⟩ := h.rows
 refine ⟨h.bn, h.by_, h.nb.kp hk (hn _ _ _ (.inl h.nb)), mv, h1.kp hk (hn _ _ _ (.inr h1)), h2, fun k v l hv hl => ⟨down_kp (h3 k v l hv hl).1 hk fun q hq => ?_, (h3 k v l hv hl).2⟩, h4⟩
 obtain ⟨cur, hc⟩ := own_block (h3 k v l hv hl).1 hq
 exact hn _ _ _ (.inl hc)
theorem Lw.dt (h : Lw B w gn gy now may) (hk : Kp (fun k => B <= k /\ DT w k) w w') : Lw B w' gn gy now may :=
 h.kp hk fun k cs fr e hh => by
  rcases e with e | e
  ·exact not_DT e ⟨by decide, by decide, by decide⟩ hh.2
  ·exact not_DT e ⟨by decide, by decide, by decide⟩ hh.2
theorem Lw.still (h : Lw B w gn gy now may) (hk : Kp (fun _ => False) w w') : Lw B w' gn gy now may := h.kp hk fun _ _ _ _ h => h
theorem Lw.alloc (h : Lw B w gn gy now may) (o : Obj) : Lw B (w.alloc o) gn gy now may := h.still ((Kp.refl _ w).alloc o)
theorem Lw.drew (h : Lw B w gn gy now may) : Lw B w.drew gn gy now may := h.still ((Kp.refl _ w).drew)
theorem Lw.start (h : Lw B w gn gy now may) (t : Bool) (d : Dm) : Lw B w gn gy (nowIf t d now 0) (mayIf t d may 0) := by rw [nowIf_zero, mayIf_zero]; exact h
theorem dstr_eq (a b : List UInt8) : ((⟨a.toArray⟩ : ByteArray).toList == (⟨b.toArray⟩ : ByteArray).toList) = (a == b) := by rw [ByteArray.toList_eq, ByteArray.toList_eq]
theorem Lw.lt (h : Lw B w gn gy now may) : gn < w.heap.size /\ gy < w.heap.size := by
 obtain ⟨mv, h1, _⟩ := h.rows
 exact ⟨h.nb.lt, h1.lt⟩
end
def Few (may : List (List (List UInt8))) (i : Nat) : Prop := ∀ r ∈ may, r.length <= i + 1
theorem Few.mono {may : List (List (List UInt8))} {i : Nat} (h : Few may i) : Few may (i + 1) := fun r hr => Nat.le_succ_of_le (h r hr)
theorem Few.ones (now : List (List UInt8)) (i : Nat) : Few (now.map fun s => [s]) i := fun r hr => by
 obtain ⟨s, _, rfl⟩ := List.mem_map.1 hr
 simp
theorem Few.look {may : List (List (List UInt8))} {i : Nat} (h : Few may i) (t : Bool) (d : Dm) (j : Nat) : Few (mayIf t d may j) i := fun r hr => by
 cases t
 ·exact h r hr
 ·have hr' : r ∈ mayTo d may j := hr
  rcases List.mem_append.1 hr' with hr | hr
  ·exact Few.ones _ i r hr
  ·exact h r (List.mem_of_mem_drop hr)
theorem Few.get {may : List (List (List UInt8))} {i : Nat} (h : Few may i) (k : Nat) : (may.getD k []).length <= i + 1 := by
 rcases Nat.lt_or_ge k may.length with hk | hk
 ·have e : may.getD k [] = may[k] := by simp [List.getD, hk]
  rw [e]
  exact h _ (List.getElem_mem _)
 ·have e : may.getD k [] = [] := by simp [List.getD, hk]
  rw [e]
  exact Nat.zero_le _
theorem Few.push {may : List (List (List UInt8))} {i : Nat} (h : Few may i) (k : Nat) (s : List UInt8) : Few (may.set k (may.getD k [] ++ [s])) (i + 1) := fun r hr => by
 rcases List.mem_or_eq_of_mem_set hr with hr | rfl
 ·exact Nat.le_succ_of_le (h r hr)
 ·have := h.get k
  simp only [List.length_append, List.length_singleton]
  omega
section
variable {B : Nat} {w W W2 : World} {gn gy b n i : Nat} {d : Dm} {now : List (List UInt8)} {may : List (List (List UInt8))}
theorem Dsk.ok {F : Nat -> Prop} (h : Dsk F W b d) : d.ok := by
 obtain ⟨_, _, _, h, _⟩ := h
 exact h.ok
end
end Go.Proofs.YtepaeliamhjgiaaGreatDoor
