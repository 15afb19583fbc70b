/- Nodes that are known. No condition. -/
import Derived.Test.YtjapnkpicefadaaNdTake
import Derived.Test.YtjapnkpicefadaaNdSame
import Derived.Test.YtjapnkpicefadaaNdFind
namespace Go.Proofs.Ytjapnkpicefadaa
open Go.RowKit

def kb : ByteArray := ⟨#[98]⟩
def kc : ByteArray := ⟨#[99]⟩
def kd : ByteArray := ⟨#[100]⟩
def xx : ByteArray := ⟨#[120, 120]⟩
def yy : ByteArray := ⟨#[121, 121]⟩
def nA : Nd := ⟨true, [kb, kd], [xx, yy], []⟩
def nB : Nd := ⟨true, [kb, kb], [xx, yy], []⟩
theorem bls_byt (a b : ByteArray) : bls a b = Go.Op.bytesLess (byt a) (byt b) := by unfold bls; rw [toList_byt, toList_byt]
theorem ble_byt (a b : ByteArray) : ble a b = (Go.Op.bytesLess (byt a) (byt b) || (byt a == byt b)) := by unfold ble; rw [bls_byt, toList_byt, toList_byt]
theorem okA : okB 1 2 nA = true := by
  simp only [okB, hasB, nA, if_true, leafB, keysB, kyB, ble_byt, valsB]
  decide
theorem okBB : okB 1 2 nB = false := by
  simp only [okB, hasB, nB, if_true, leafB, keysB, kyB, ble_byt, valsB]
  decide
theorem lessA : lessN kc nA.keys = 1 := by
  simp only [lessN, nA, List.countP_cons, List.countP_nil, bls_byt]
  decide
theorem isA : isB kc nA.keys = false := by
  unfold isB
  rw [lessA]
  decide
theorem moreA : moreN kd nA.keys = 2 := by
  simp only [moreN, nA, List.countP_cons, List.countP_nil, ble_byt]
  decide
theorem cap32 : capZ 32 4 = 14 := by decide
theorem fan32 : fanZ 32 4 = 15 := by decide
theorem takeA : takeS 1 2 (pageL nA) = (nA, 0) := by
  unfold takeS
  have h0 : shB 1 2 = true := by decide
  have h1 : readN (1 : Int).toNat (2 : Int).toNat (pageL nA) = nA := read_page (kw := 1) (vw := 2) okA
  rw [h0, if_neg (by simp), if_neg (by rw [page_len okA]; simp), h1, okA]
  simp
theorem headA : (pageL nA).take 10 = [1, 0, 0, 2, 98, 120, 120, 100, 121, 121] := by
  unfold pageL
  have h : wordL nA = [1, 0, 0, 2, 98, 120, 120, 100, 121, 121] := by decide
  rw [h]
  rfl

def plA (w : World) : Pl := ⟨some ⟨w.heap.size + 1, 0, none⟩, some ⟨w.heap.size + 2, 0, none⟩, none, 2, 2, 0⟩
theorem nd_lit {w : World} {g1 g2 : Nat} {k1 k2 v1 v2 : ByteArray} (h1 : Box w g1 9 #[.string k1, .string k2]) (h2 : Box w g2 9 #[.string v1, .string v2]) : NdR w ⟨true, [k1, k2], [v1, v2], []⟩ ⟨some ⟨g1, 0, none⟩, some ⟨g2, 0, none⟩, none, 2, 2, 0⟩ := by
  refine ⟨.inr ⟨g1, 0, rfl, fun j u hu => ?_⟩, .inr ⟨g2, 0, rfl, fun j u hu => ?_⟩, .nil _ _, by simp [maxLen], by simp [maxLen], by simp [maxLen]⟩
  · rw [Nat.zero_add, h1.cell]
    simpa [sts] using hu
  · rw [Nat.zero_add, h2.cell]
    simpa [sts] using hu
set_option maxRecDepth 100000 in
set_option maxHeartbeats 8000000 in
theorem wakes_true (w : World) :
    Calls Try.prog 6 #[] w fun e w' => e = .returned (.bool true) ∧ Kp (fun _ => False) w w' := by
  obtain ⟨W, hW, bs, bk, bv, bn, k0⟩ : ∃ W, W = (((w.alloc (.cells #[.int .i64 1, .int .i64 2] 30)).alloc (.cells #[.string kb, .string kd] 9)).alloc (.cells #[.string xx, .string yy] 9)).alloc (.cells #[.bool true, .slice (some ⟨w.heap.size + 1, 0, none⟩) 2 2, .slice (some ⟨w.heap.size + 2, 0, none⟩) 2 2, .slice none 0 0] 36) ∧ Box W w.heap.size 30 #[.int .i64 1, .int .i64 2] ∧ Box W (w.heap.size + 1) 9 #[.string kb, .string kd] ∧ Box W (w.heap.size + 2) 9 #[.string xx, .string yy] ∧ Box W (w.heap.size + 3) 36 #[.bool true, .slice (some ⟨w.heap.size + 1, 0, none⟩) 2 2, .slice (some ⟨w.heap.size + 2, 0, none⟩) 2 2, .slice none 0 0] ∧ Kp (fun _ => False) w W := by
    refine ⟨_, rfl, ((((Box.new w _ _).alloc _).alloc _).alloc _), ?_, ?_, ?_, ((((Kp.refl _ w).alloc _).alloc _).alloc _).alloc _⟩
    · exact (((by simpa using Box.new (w.alloc (.cells #[.int .i64 1, .int .i64 2] 30)) 9 #[.string kb, .string kd] : Box _ (w.heap.size + 1) _ _).alloc _).alloc _)
    · exact ((by simpa using Box.new ((w.alloc (.cells #[.int .i64 1, .int .i64 2] 30)).alloc (.cells #[.string kb, .string kd] 9)) 9 #[.string xx, .string yy] : Box _ (w.heap.size + 2) _ _).alloc _)
    · simpa using Box.new (((w.alloc (.cells #[.int .i64 1, .int .i64 2] 30)).alloc (.cells #[.string kb, .string kd] 9)).alloc (.cells #[.string xx, .string yy] 9)) 36 #[.bool true, .slice (some ⟨w.heap.size + 1, 0, none⟩) 2 2, .slice (some ⟨w.heap.size + 2, 0, none⟩) 2 2, .slice none 0 0]
  have HW := Lib.hid hW
  have K0 := Lib.hid k0
  have HF : Hid (∀ v, Kp (fun _ => False) W v → v.cell? ⟨w.heap.size, 0, none⟩ = some (.int .i64 1) ∧ v.cell? ⟨w.heap.size, 1, none⟩ = some (.int .i64 2) ∧ v.cell? ⟨w.heap.size + 3, 0, none⟩ = some (.bool true) ∧ v.cell? ⟨w.heap.size + 3, 1, none⟩ = some (.slice (some ⟨w.heap.size + 1, 0, none⟩) 2 2) ∧ v.cell? ⟨w.heap.size + 3, 2, none⟩ = some (.slice (some ⟨w.heap.size + 2, 0, none⟩) 2 2) ∧ v.cell? ⟨w.heap.size + 3, 3, none⟩ = some (.slice none 0 0)) := Lib.hid fun v hv =>
    ⟨(bs.kp hv (fun h => h)).cell 0, (bs.kp hv (fun h => h)).cell 1, (bn.kp hv (fun h => h)).cell 0, (bn.kp hv (fun h => h)).cell 1, (bn.kp hv (fun h => h)).cell 2, (bn.kp hv (fun h => h)).cell 3⟩
  have HR : Hid (∀ v, Kp (fun _ => False) W v → NdR v nA (plA w)) := Lib.hid fun v hv => nd_lit (bk.kp hv (fun h => h)) (bv.kp hv (fun h => h))
  clear hW k0 bs bk bv bn
  obtain ⟨y0, y1, y2, y3, y4, y5⟩ := HF.out W (Kp.refl _ _)
  go_enter Try.func6, Try.ntmps6
  go_upto_region 3 with fail
  change Code.wp _ _ _ _ ((((w.alloc (.cells #[.int .i64 1, .int .i64 2] 30)).alloc (.cells #[.string kb, .string kd] 9)).alloc (.cells #[.string xx, .string yy] 9)).alloc (.cells #[.bool true, .slice (some ⟨w.heap.size + 1, 0, none⟩) 2 2, .slice (some ⟨w.heap.size + 2, 0, none⟩) 2 2, .slice none 0 0] 36))
  rw [← HW.out]
  go_wp2_with fail
  refine (put_yes 1 2 nA (plA w) _ (HR.out W (Kp.refl _ _)) okA).mono ?_
  rintro e w1 ⟨g, c, rfl, hc1, hc2, hrd, hg, k1⟩
  have hrd1 := hrd
  have HRD := Lib.hid hrd
  have K1 := Lib.hid k1
  clear y0 y1 y2 y3 y4 y5 k1 hrd hg
  obtain ⟨y0, y1, y2, y3, y4, y5⟩ := HF.out w1 K1.out
  go_wp2_with fail
  refine (take_any 1 2 (some ⟨g, 0, none⟩) 512 c (pageL nA) _ (page_len okA) HRD.out (by rw [page_len okA]; decide)).mono ?_
  rintro e w2 ⟨q, he, hr, k2⟩
  rw [takeA] at he hr
  obtain rfl : e = .returned (.tuple #[.agg #[.bool true, .slice q.k 2 q.ck, .slice q.v 2 q.cv, .slice q.c 0 q.cc], .int .i64 0]) := he
  have HQ := Lib.hid hr
  have K2 := Lib.hid (K1.out.trans k2)
  have HRD2 := Lib.hid (rd_still HRD.out k2)
  clear y0 y1 y2 y3 y4 y5 k2 hr
  go_upto_region 5 with fail
  obtain ⟨w3, hw3, b3, k3⟩ : ∃ v, v = w2.alloc (.cells #[.bool true, .slice q.k 2 q.ck, .slice q.v 2 q.cv, .slice q.c 0 q.cc] 36) ∧ Box v w2.heap.size 36 #[.bool true, .slice q.k 2 q.ck, .slice q.v 2 q.cv, .slice q.c 0 q.cc] ∧ Kp (fun _ => False) w2 v := ⟨_, rfl, Box.new w2 _ _, (Kp.refl _ w2).alloc _⟩
  rw [← hw3]
  obtain ⟨gm, hgm⟩ : ∃ gm, w2.heap.size = gm := ⟨_, rfl⟩
  rw [hgm] at b3 ⊢
  have HM : Hid (∀ v, Kp (fun _ => False) w3 v → v.cell? ⟨gm, 0, none⟩ = some (.bool true) ∧ v.cell? ⟨gm, 1, none⟩ = some (.slice q.k 2 q.ck) ∧ v.cell? ⟨gm, 2, none⟩ = some (.slice q.v 2 q.cv) ∧ v.cell? ⟨gm, 3, none⟩ = some (.slice q.c 0 q.cc)) := Lib.hid fun v hv =>
    ⟨(b3.kp hv (fun h => h)).cell 0, (b3.kp hv (fun h => h)).cell 1, (b3.kp hv (fun h => h)).cell 2, (b3.kp hv (fun h => h)).cell 3⟩
  have K3 := Lib.hid (K2.out.trans k3)
  have HQ3 := Lib.hid (HQ.out.still k3)
  have HRD3 := Lib.hid (rd_still HRD2.out k3)
  clear hw3 b3 k3 hgm
  obtain ⟨y0, y1, y2, y3, y4, y5⟩ := HF.out w3 K3.out
  go_wp2_with fail
  refine (find_any kc nA (plA w) _ (HR.out w3 K3.out)).mono ?_
  rw [lessA, isA]
  rintro e w4 ⟨rfl, k4⟩
  have K4 := Lib.hid (K3.out.trans k4)
  have K34 := Lib.hid k4
  clear y0 y1 y2 y3 y4 y5 k4
  obtain ⟨y0, y1, y2, y3, y4, y5⟩ := HF.out w4 K4.out
  go_wp2_with fail
  obtain ⟨w5, hw5, bk5, bv5, k5⟩ : ∃ v, v = (w4.alloc (.cells #[.string ⟨#[98]⟩, .string ⟨#[98]⟩] 9)).alloc (.cells #[.string ⟨#[120, 120]⟩, .string ⟨#[121, 121]⟩] 9) ∧ Box v w4.heap.size 9 #[.string ⟨#[98]⟩, .string ⟨#[98]⟩] ∧ Box v (w4.heap.size + 1) 9 #[.string ⟨#[120, 120]⟩, .string ⟨#[121, 121]⟩] ∧ Kp (fun _ => False) w4 v := ⟨_, rfl, (Box.new w4 _ _).alloc _, by simpa using Box.new (w4.alloc (.cells #[.string ⟨#[98]⟩, .string ⟨#[98]⟩] 9)) 9 #[.string ⟨#[120, 120]⟩, .string ⟨#[121, 121]⟩], ((Kp.refl _ w4).alloc _).alloc _⟩
  rw [← hw5]
  clear y0 y1 y2 y3 y4 y5 hw5
  refine (put_no 1 2 nB ⟨some ⟨w4.heap.size, 0, none⟩, some ⟨w4.heap.size + 1, 0, none⟩, none, 2, 2, 0⟩ _ (nd_lit bk5 bv5) okBB).mono ?_
  rintro e w6 ⟨rfl, k6⟩
  have K36 := Lib.hid (K34.out.trans (k5.trans k6))
  clear bk5 bv5 k5 k6
  go_upto_region 8 with fail
  obtain ⟨w7, hw7, b7, k7⟩ : ∃ v, v = w6.alloc (.cells #[.int .i64 32, .int .i64 4] 30) ∧ Box v w6.heap.size 30 #[.int .i64 32, .int .i64 4] ∧ Kp (fun _ => False) w6 v := ⟨_, rfl, Box.new w6 _ _, (Kp.refl _ w6).alloc _⟩
  rw [← hw7]
  obtain ⟨gc, hgc⟩ : ∃ gc, w6.heap.size = gc := ⟨_, rfl⟩
  rw [hgc] at b7 ⊢
  have HC7 : Hid (∀ v, Kp (fun _ => False) w7 v → v.cell? ⟨gc, 0, none⟩ = some (.int .i64 32) ∧ v.cell? ⟨gc, 1, none⟩ = some (.int .i64 4)) := Lib.hid fun v hv => ⟨(b7.kp hv (fun h => h)).cell 0, (b7.kp hv (fun h => h)).cell 1⟩
  have K37 := Lib.hid (K36.out.trans k7)
  have K7 := Lib.hid (K3.out.trans K37.out)
  clear hw7 b7 k7 hgc
  have hrd7 := (rd_still HRD3.out K37.out).take 10
  rw [headA] at hrd7
  have hcv := hrd7.text (P := Try.prog) 32 9 5 c Try.underlying32 Try.underlying5 Try.underlying9
  simp only [List.length_cons, List.length_nil, Nat.reduceAdd, Nat.zero_add] at hcv
  clear hrd7 hrd1
  unfold maxLen at hc2
  obtain ⟨y0, y1, y2, y3, y4, y5⟩ := HF.out w7 K7.out
  obtain ⟨z0, z1, z2, z3⟩ := HM.out w7 K37.out
  go_wp2_with fail
  refine (same_true nA q (plA w) _ (HQ3.out.still K37.out) (HR.out w7 K7.out)).mono ?_
  rintro e w8 ⟨rfl, k8⟩
  have K38 := Lib.hid (K37.out.trans k8)
  have K8 := Lib.hid (K7.out.trans k8)
  have K78 := Lib.hid k8
  clear y0 y1 y2 y3 y4 y5 z0 z1 z2 z3 k8 hcv
  obtain ⟨y0, y1, y2, y3, y4, y5⟩ := HF.out w8 K8.out
  go_wp2_with fail
  refine (down_any kd nA (plA w) _ (HR.out w8 K8.out)).mono ?_
  rw [moreA]
  rintro e w9 ⟨rfl, k9⟩
  have K9 := Lib.hid (K8.out.trans k9)
  have K79 := Lib.hid (K78.out.trans k9)
  clear y0 y1 y2 y3 y4 y5 k9
  obtain ⟨z0, z1⟩ := HC7.out w9 K79.out
  go_wp2_with fail
  refine (cap_any 32 4 _).mono ?_
  rw [cap32]
  rintro e wA ⟨rfl, kA⟩
  have KA := Lib.hid (K9.out.trans kA)
  have K7A := Lib.hid (K79.out.trans kA)
  clear z0 z1 kA
  obtain ⟨z0, z1⟩ := HC7.out wA K7A.out
  go_wp2_with fail
  refine (fan_any 32 4 _).mono ?_
  rw [fan32]
  rintro e wB ⟨rfl, kB⟩
  have KB := Lib.hid (KA.out.trans kB)
  clear z0 z1 kB
  go_wp2_with fail
  go_ret
  exact ⟨rfl, K0.out.trans KB.out⟩
  
end Go.Proofs.Ytjapnkpicefadaa
