/- The law of pages, part 25 of 55: BtTz BtEnd BtNew BtSet. -/
import Derived.Test.YtepaeliamhjgiaaGreatDoorMu1
import Derived.Test.YtepaeliamhjgiaaGreatDoorMu24
import Derived.Test.YtepaeliamhjgiaaGreatDoorMu23
import Derived.Maps.AppendAt
import Derived.Deep.DeepMust
import Derived.StillTailTactics
set_option maxHeartbeats 16000000
set_option maxRecDepth 100000
namespace Go.Proofs.YtepaeliamhjgiaaGreatDoor.Bt
open Go.RowKit
def Tbl (w : World) : Prop := ∀ i, i < 64 -> w.cell? ⟨0, i, none⟩ = some (.int .u8 ((bruijn.getD i 0 : Nat) : Int))
theorem Tbl.kp {w w' : World} {S : Nat -> Prop} (h : Tbl w) (hk : Kp S w w') (hn : ¬ S 0) : Tbl w' := fun i hi =>
 (hk.cell (p := ⟨0, i, none⟩) (World.block_lt_of_cell? w ⟨0, i, none⟩ (h i hi)) hn).trans (h i hi)
theorem tz_facts (t q : Nat) (ht : t < 64) (hx : 2 ^ t * (2 * q + 1) < 18446744073709551616) : ∃ (i : Nat) (Y P M : Int), bruijn.getD i 0 = t /\ i < 64 /\ (((2 ^ t * (2 * q + 1) : Nat) : Int) == 0) = false /\ IntKind.u64.wrap (-((2 ^ t * (2 * q + 1) : Nat) : Int)) = Y /\
  bits .and .u64 ((2 ^ t * (2 * q + 1) : Nat) : Int) Y = P /\ IntKind.u64.wrap (P * 285870213051353865) = M /\ M / 288230376151711744 = (i : Int) := by
 have hpos : 0 < 2 ^ t * (2 * q + 1) := Nat.mul_pos (Nat.pow_pos (by decide)) (by omega)
 have hlow := low_bit t q ht hx
 have hb := bruijn_at t ht
 have hp : 2 ^ t < 18446744073709551616 := Nat.pow_lt_pow_right (a := 2) (n := 64) (by decide) ht
 generalize 2 ^ t * (2 * q + 1) = x at *
 generalize 2 ^ t = p at *
 refine ⟨p * 285870213051353865 % 18446744073709551616 / 288230376151711744, ((18446744073709551616 - x : Nat) : Int), (p : Int), ((p * 285870213051353865 % 18446744073709551616 : Nat) : Int), hb, by omega, ?_, ?_, ?_, ?_, ?_⟩
 ·simp; omega
 ·rw [IntKind.wrap_u64]; omega
 ·rw [u64_and_nat x (18446744073709551616 - x) hx (by omega), hlow]
 ·rw [IntKind.wrap_u64]; omega
 ·omega
theorem tz_any (t q : Nat) (w : World) (ht : t < 64) (hx : 2 ^ t * (2 * q + 1) < 18446744073709551616) (tb : Tbl w) :
  Calls Tryz.prog 121 #[.int .u64 ((2 ^ t * (2 * q + 1) : Nat) : Int)] w fun e w' => e = .returned (.int .i64 (t : Int)) /\ w = w' := by
 obtain ⟨i, Y, P, M, hb, hi, h0, h1, h2, h3, h4⟩ := tz_facts t q ht hx
 have hc := tb i hi
 rw [hb] at hc
 have hii : (i : Int) < 64 := by omega
 have htu : (t : Int) < 256 := by omega
 generalize ((2 ^ t * (2 * q + 1) : Nat) : Int) = X at *
 clear hb hx
 go_enter Tryz.func121, Tryz.ntmps121
 go_wp2_with fail
 go_ret
 exact ⟨rfl, rfl⟩
theorem i64_and_nat (a b : Nat) (ha : a < 9223372036854775808) (hb : b < 9223372036854775808) : bits .and .i64 (a : Int) (b : Int) = ((a &&& b : Nat) : Int) := by
 have hx : a &&& b < 2 ^ 63 := Nat.and_lt_two_pow _ (by omega)
 show IntKind.i64.wrap ((BitVec.ofInt 64 (a : Int) &&& BitVec.ofInt 64 (b : Int)).toNat : Int) = _
 rw [BitVec.toNat_and, ofInt_u64 a (by omega), ofInt_u64 b (by omega)]
 exact IntWalk.i64_in _ (by omega)
theorem pop_facts (x n : Nat) (hx : x < 18446744073709551616) (h : Pop x n) : ∃ a1 b1 z1 a2 b2 z2 y3 z3 z4 z5 z6 : Int,
  bits .and .u64 ((x : Int) / 2) 6148914691236517205 = a1 /\ bits .and .u64 (x : Int) 6148914691236517205 = b1 /\ IntKind.u64.wrap (a1 + b1) = z1 /\
  bits .and .u64 (z1 / 4) 3689348814741910323 = a2 /\ bits .and .u64 z1 3689348814741910323 = b2 /\ IntKind.u64.wrap (a2 + b2) = z2 /\
  IntKind.u64.wrap (z2 / 16 + z2) = y3 /\ bits .and .u64 y3 1085102592571150095 = z3 /\ IntKind.u64.wrap (z3 + z3 / 256) = z4 /\ IntKind.u64.wrap (z4 + z4 / 65536) = z5 /\ IntKind.u64.wrap (z5 + z5 / 4294967296) = z6 /\
  IntKind.i64.wrap z6 = z6 /\ bits .and .i64 z6 127 = (n : Int) := by
 obtain ⟨x1, x2, x3, x4, x5, x6, e1, l1, e2, l2, e3, l3, e4, l4, e5, l5, e6, l6, hn⟩ := h.ex
 have hw : ∀ m : Nat, m < 18446744073709551616 -> IntKind.u64.wrap (m : Int) = (m : Int) := fun m hm => by rw [IntKind.wrap_u64]; omega
 have hd : ∀ a b : Nat, (a : Int) / (b : Int) = ((a / b : Nat) : Int) := fun a b => (Int.natCast_ediv a b).symm
 refine ⟨((x / 2 &&& 6148914691236517205 : Nat) : Int), ((x &&& 6148914691236517205 : Nat) : Int), (x1 : Int), ((x1 / 4 &&& 3689348814741910323 : Nat) : Int), ((x1 &&& 3689348814741910323 : Nat) : Int), (x2 : Int), ((x2 / 16 + x2 : Nat) : Int), (x3 : Int), (x4 : Int), (x5 : Int), (x6 : Int), ?_, ?_, ?_, ?_, ?_, ?_, ?_, ?_, ?_, ?_, ?_, ?_, ?_⟩
 ·exact u64_and_nat (x / 2) 6148914691236517205 (Nat.lt_of_le_of_lt (Nat.div_le_self _ _) hx) (by decide)
 ·exact u64_and_nat x 6148914691236517205 hx (by decide)
 ·rw [<- hw x1 l1, e1, Int.natCast_add]
 ·exact u64_and_nat (x1 / 4) 3689348814741910323 (Nat.lt_of_le_of_lt (Nat.div_le_self _ _) l1) (by decide)
 ·exact u64_and_nat x1 3689348814741910323 l1 (by decide)
 ·rw [<- hw x2 (by omega), e2, Int.natCast_add]
 ·rw [<- hw (x2 / 16 + x2) (by omega), Int.natCast_add]; rfl
 ·rw [e3]; exact u64_and_nat (x2 / 16 + x2) 1085102592571150095 (by omega) (by decide)
 ·rw [<- hw x4 (by omega), e4, Int.natCast_add]; rfl
 ·rw [<- hw x5 (by omega), e5, Int.natCast_add]; rfl
 ·rw [<- hw x6 (by omega), e6, Int.natCast_add]; rfl
 ·exact IntWalk.i64_in _ (by omega)
 ·rw [<- hn, <- Nat.and_two_pow_sub_one_eq_mod x6 7]
  exact i64_and_nat x6 127 (by omega) (by decide)
theorem pop_any (x n : Nat) (w : World) (hx : x < 18446744073709551616) (h : Pop x n) :
  Calls Tryz.prog 115 #[.int .u64 (x : Int)] w fun e w' => e = .returned (.int .i64 (n : Int)) /\ w = w' := by
 obtain ⟨a1, b1, z1, a2, b2, z2, y3, z3, z4, z5, z6, f1, f2, f3, f4, f5, f6, f7, f8, f9, f10, f11, f12, f13⟩ := pop_facts x n hx h
 generalize (x : Int) = X at *
 clear hx h
 go_enter Tryz.func115, Tryz.ntmps115
 go_wp2_with fail
 go_ret
 exact ⟨rfl, rfl⟩
theorem bytes_getD (D : Array UInt8) (k : Nat) (h : k < (ByteArray.mk D).size) : (ByteArray.mk D)[k] = D.getD k 0 := by
 have h' : k < D.size := h
 simp [Array.getD, h']
 rfl
def len8 (x : Nat) : Nat := if x = 0 then 0 else Nat.log2 x + 1
theorem len8_any (x : UInt8) (w : World) :
  Calls Tryz.prog 162 #[.int .u8 x.toNat] w fun e w' => e = .returned (.int .i64 ((len8 x.toNat : Nat) : Int)) /\ w = w' := by
 have hx : x.toNat < 256 := x.toNat_lt
 have hxi : (x.toNat : Int) < 256 := by omega
 go_enter Tryz.func162, Tryz.ntmps162
 go_upto_region 1 with fail
 go_wp2_with fail
 go_ret
 refine ⟨congrArg (fun z => Ending.returned (.int .i64 z)) ?_, rfl⟩
 rw [bytes_getD]
 clear hxi
 generalize x.toNat = k at *
 revert hx
 revert k
 decide +kernel
end Go.Proofs.YtepaeliamhjgiaaGreatDoor.Bt
namespace Go.Proofs.YtepaeliamhjgiaaGreatDoor.Bt
open Go.RowKit Go.Shelf
attribute [local go_sem] Oper.semAt_some
def bitL (l : List UInt8) (i : Nat) : Bool := (l.getD (i / 8) 0).toNat.testBit (i % 8)
structure BEnd (l : List UInt8) (e : Nat) : Prop where
 off : ∀ i, e <= i -> bitL l i = false
 on : 0 < e -> bitL l (e - 1) = true
theorem len8_is (x : Nat) (hx : x < 256) (h0 : x ≠ 0) : 0 < len8 x /\ len8 x <= 8 /\ x.testBit (len8 x - 1) = true /\ ∀ j, j < 8 -> len8 x <= j -> x.testBit j = false := by
 have h : ∀ x : Fin 256, x.val ≠ 0 -> 0 < len8 x.val /\ len8 x.val <= 8 /\ x.val.testBit (len8 x.val - 1) = true /\ ∀ j, j < 8 -> len8 x.val <= j -> x.val.testBit j = false := by decide +kernel
 exact h ⟨x, hx⟩ h0
theorem bend_none (l : List UInt8) (h : ∀ i, i < l.length -> l.getD i 0 = 0) : BEnd l 0 := by
 refine ⟨fun i _ => ?_, fun h => by omega⟩
 unfold bitL
 rcases Nat.lt_or_ge (i / 8) l.length with hi | hi
 ·rw [h _ hi]; simp
 ·rw [List.getD_eq_getElem?_getD, List.getElem?_eq_none hi]; simp
theorem bend_at (l : List UInt8) (k : Nat) (_hk : k < l.length) (h0 : l.getD k 0 ≠ 0) (h : ∀ i, k < i -> i < l.length -> l.getD i 0 = 0) : BEnd l (k * 8 + len8 (l.getD k 0).toNat) := by
 have hx : (l.getD k 0).toNat ≠ 0 := fun e => h0 (UInt8.toNat_inj.1 (by rw [e]; rfl))
 obtain ⟨a, b, c, d⟩ := len8_is _ (l.getD k 0).toNat_lt hx
 refine ⟨fun i hi => ?_, fun _ => ?_⟩
 ·unfold bitL
  rcases Nat.lt_trichotomy (i / 8) k with h1 | h1 | h1
  ·omega
  ·rw [h1]
   exact d _ (Nat.mod_lt _ (by decide)) (by omega)
  ·rcases Nat.lt_or_ge (i / 8) l.length with hi2 | hi2
   ·rw [h _ h1 hi2]; simp
   ·rw [List.getD_eq_getElem?_getD, List.getElem?_eq_none hi2]; simp
 ·unfold bitL
  have e1 : (k * 8 + len8 (l.getD k 0).toNat - 1) / 8 = k := by omega
  have e2 : (k * 8 + len8 (l.getD k 0).toNat - 1) % 8 = len8 (l.getD k 0).toNat - 1 := by omega
  rw [e1, e2]
  exact c
theorem len8_le (x : UInt8) : len8 x.toNat <= 8 := by
 by_cases h : x.toNat = 0
 ·rw [h]; decide
 ·exact (len8_is _ x.toNat_lt h).2.1
theorem run_loadInt (w : World) (g : Nat) (z : Int) (hc : w.cell? ⟨g, 0, none⟩ = some (.int .i64 z)) : (loadVar 3 ⟨g, 0, none⟩).run Tryz.prog w = .ok (.int .i64 z) w := by
 have hu : Tryz.prog.underlying 3 = some (.int .i64) := Tryz.underlying3
 have hi : (Tryz.prog.info? 3).map (·.size) = some 1 := by kernel_rfl
 simp [loadVar, hc, go_sem]
theorem results_cell_int {fn : Func} {p : Tmp} (h : fn.results = #[.cell p 3]) (tmps : Array Value) (w : World) (g : Nat) (z : Int)
  (hp : tmps.getD p undef = .pointer (some ⟨g, 0, none⟩)) (hc : w.cell? ⟨g, 0, none⟩ = some (.int .i64 z)) :
  (results fn tmps).run Tryz.prog w = .ok (.int .i64 z) w := by
 have hp' : tmps[p]?.getD undef = .pointer (some ⟨g, 0, none⟩) := by simpa using hp
 simp [results, h, hp', asAddr, run_loadInt w g z hc]
theorem kpK_b {w : World} {S : Nat -> Prop} (hS : ∀ k, w.heap.size <= k -> S k) (W : World) (l : Nat) (o o' : Obj) (hl : w.heap.size <= l) (_ : W.heap[l]? = some o) (_ : o.isCells = false) (_ : o.isWalk = false) : Kp S W (W.putObj l o') :=
 (Kp.refl S W).grown (grownBy_putObj' W l o') (fun k e => by cases e; exact .inr (hS _ hl))
theorem _root_.Go.Proofs.YtepaeliamhjgiaaGreatDoor.Box.off {W W' : World} {g : Nat} {t : TypeId} {cs : Array Value} {row : Option Nat} (h : Box W g t cs) (hg : W.grownBy W' row) (hr : ∀ r, row = some r -> ∃ o : Obj, W.heap[r]? = some o /\ o.isCells = false) : Box W' g t cs :=
 h.grown hg fun e => by
  obtain ⟨o, ho, hc⟩ := hr g e.symm
  unfold Box at h
  rw [h] at ho
  cases ho
  cases hc
theorem back_stops (F : Fence) (n : Nat) (h20 : F.fn 176) (hro : F.round = none) (hn : 1 <= n) (Bs b o m c : Nat) (l : List UInt8) (hmx : l.length <= 1048576) (hm : l.length = m)
  (w : World) (hcs : w.cell? ⟨Bs, 0, none⟩ = some (.slice (some ⟨b, o, none⟩) l.length c)) (hcn : ∀ j u, l[j]? = some u -> w.cell? ⟨b, o + j, none⟩ = some (.int .u8 u.toNat)) :
  SeqStopsK F n Tryz.prog 176 #[.pointer (some ⟨Bs, 0, none⟩)] (fun x : Fin m => backAt l x.1) (Kp (fun k => k ≠ Bs /\ k ≠ b)) (fun ys => ys = List.finRange m) (fun pre => ∃ k, k <= m /\ pre = (List.finRange m).take k) m w := fun y J Jx W hW hJ _ hY h0 =>
 back1_in F n h20 hro hn y Bs b o m c l hmx hm J Jx (fun k pre w h => hJ pre w (w.drewN k) none h ⟨rfl, rfl, rfl, Nat.le_refl _, fun _ _ _ => rfl⟩ (fun r e => by cases e)) hY W
  ((hW.cell (p := ⟨Bs, 0, none⟩) (World.block_lt_of_cell? w ⟨Bs, 0, none⟩ hcs)).trans hcs) (fun j u hu => (hW.cell (p := ⟨b, o + j, none⟩) (World.block_lt_of_cell? w ⟨b, o + j, none⟩ (hcn j u hu))).trans (hcn j u hu)) h0
structure EndI (w : World) (l : List UInt8) (m : Nat) (sv : Value) (pre : List (Fin m)) (z : Int) (W : World) : Prop where
 box : Box W w.heap.size 3 #[.int .i64 z]
 bs : Box W (w.heap.size + 1) 50 #[sv]
 kp : Kp (fun _ => False) w W
def zer (l : List UInt8) (m : Nat) (pre : List (Fin m)) : Prop := ∀ y ∈ pre, l.getD (m - 1 - y.1) 0 = 0
theorem EndI.off {w : World} {l : List UInt8} {m : Nat} {sv : Value} {pre : List (Fin m)} {z : Int} {W W' : World} {row : Option Nat} (h : EndI w l m sv pre z W) {B : Nat} (hB : w.heap.size <= B) (hg : W.grownBy W' row) (hr : ∀ r, row = some r -> B <= r /\ ∃ o : Obj, W.heap[r]? = some o /\ o.isCells = false) : EndI w l m sv pre z W' :=
 ⟨h.box.off hg (fun r e => (hr r e).2), h.bs.off hg (fun r e => (hr r e).2), h.kp.grown hg (fun k e => .inl (Nat.le_trans hB (hr k e).1))⟩
theorem take_before (m k : Nat) (hk : k <= m) (pre : List (Fin m)) (x : Fin m) (h : pre ++ [x] = (List.finRange m).take k) (y : Fin m) (hy : y.1 < x.1) : y ∈ pre := by
 have hl := congrArg List.length h
 simp at hl
 have hx := congrArg (fun q => q[pre.length]?) h
 have hk' : pre.length < k := by omega
 have hm' : pre.length < m := by omega
 simp [hk', hm'] at hx
 have hx1 : x.1 = pre.length := by rw [hx]
 have hyy := congrArg (fun q => q[y.1]?) h
 have h1 : y.1 < pre.length := by omega
 have h2 : y.1 < k := by omega
 simp [h1, h2, List.getElem?_append_left] at hyy
 rw [<- hyy]
 exact List.getElem_mem h1
theorem end_in (b o c : Nat) (l : List UInt8) (w : World) (hmx : l.length <= 1048576) (hpos : 0 < l.length) (hcn : ∀ j u, l[j]? = some u -> w.cell? ⟨b, o + j, none⟩ = some (.int .u8 u.toNat)) :
  CallsIn Fence.wide 3 Tryz.prog 146 #[.slice (some ⟨b, o, none⟩) l.length c] w fun e w' => ∃ z : Nat, e = .returned (.int .i64 (z : Int)) /\ BEnd l z /\ Kp (fun _ => False) w w' := by
 have hF : ∀ f, Fence.wide.fn f := fun _ => trivial
 have hro : Fence.wide.round = none := rfl
 have hb : b < w.heap.size := World.block_lt_of_cell? w ⟨b, o + 0, none⟩ (hcn 0 l[0] (List.getElem?_eq_getElem hpos))
 obtain ⟨m, hm⟩ : ∃ m, l.length = m := ⟨_, rfl⟩
 have HCN := hHd hcn
 have HM := hHd hm
 have Hpos := hHd hpos
 clear hcn hpos
 rw [hm] at hmx ⊢
 clear hm
 have hbk := hHd (back_in Fence.wide 2 (hF _) hro (some ⟨b, o, none⟩) m c (w.alloc (.cells #[.int .i64 0] 3)))
 refine callsIn_of_wp_marks Tryz.func146 rfl (hF _) ?_ hro
 simp only [Tryz.ntmps146, List.size_toArray, List.length_cons, List.length_nil, Nat.reduceAdd, Nat.reduceSub, Array.replicate_succ, Array.replicate_zero, List.push_toArray, List.append_toArray, List.nil_append, List.cons_append]
 gi_wp2_with (first | (gi_at_call 161; refine (hbk.out).mono ?_; rintro e w' ⟨rfl, rfl⟩) | fail)
 have hI0 : EndI w l m (.slice (some ⟨b, o, none⟩) m c) [] 0 ((w.alloc (.cells #[.int .i64 0] 3)).alloc (.cells #[.slice (some ⟨b, o, none⟩) m c] 50)) := by
  have b2 := Box.new (w.alloc (.cells #[.int .i64 0] 3)) 50 #[.slice (some ⟨b, o, none⟩) m c]
  rw [World.size_alloc] at b2
  exact ⟨(Box.new w _ _).alloc _, b2, ((Kp.refl _ w).alloc _).alloc _⟩
 have hsz : ((w.alloc (.cells #[.int .i64 0] 3)).alloc (.cells #[.slice (some ⟨b, o, none⟩) m c] 50)).heap.size = w.heap.size + 2 := by simp
 generalize ((w.alloc (.cells #[.int .i64 0] 3)).alloc (.cells #[.slice (some ⟨b, o, none⟩) m c] 50)) = W0 at *
 have hcn0 : ∀ j u, l[j]? = some u -> W0.cell? ⟨b, o + j, none⟩ = some (.int .u8 u.toNat) := fun j u hu =>
  (hI0.kp.cell (p := ⟨b, o + j, none⟩) (World.block_lt_of_cell? w _ (HCN.out j u hu)) (fun h => h)).trans (HCN.out j u hu)
 have hcs0 : W0.cell? ⟨w.heap.size + 1, 0, none⟩ = some (.slice (some ⟨b, o, none⟩) l.length c) := by rw [HM.out]; exact hI0.bs.cell 0
 refine wpIn_rangeFunc_ownH hro (by omega) (gf := 176) (lb := #[.pointer (some ⟨w.heap.size + 1, 0, none⟩)]) rfl (hF _) (enters_of Tryz.func176 (by kernel_rfl) rfl)
  (back_stops Fence.wide (3 - 1) (hF _) hro (by omega) (w.heap.size + 1) b o m c l (by rw [HM.out]; exact hmx) HM.out W0 hcs0 hcn0) (fun h k => h.trans k) (kpK_b (fun k hk => by omega)) (Below.refl _ _) (fun _ => rfl)
  (fun (pre : List (Fin m)) W => zer l m pre /\ EndI w l m (.slice (some ⟨b, o, none⟩) m c) pre 0 W)
  (fun cd pre W => cd = .ret /\ ∃ pre' x, pre = pre' ++ [x] /\ zer l m pre' /\ l.getD (m - 1 - x.1) 0 ≠ 0 /\ EndI w l m (.slice (some ⟨b, o, none⟩) m c) pre (((m - 1 - x.1) * 8 + len8 (l.getD (m - 1 - x.1) 0).toNat : Nat) : Int) W)
  (fun s A B row hs hg hr => ⟨hs.1, EndI.off hs.2 (by omega) hg hr⟩)
  (fun _ s A B row hs hg hr => by obtain ⟨h1, p, x, h2, h3, h4, h5⟩ := hs; exact ⟨h1, p, x, h2, h3, h4, EndI.off h5 (by omega) hg hr⟩)
  ⟨fun y hy => (by cases hy), hI0⟩
  (fun x a' _ => a' = { tmps := #[.slice (some ⟨b, o, none⟩) m c, undef, .pointer (some ⟨w.heap.size, 0, none⟩), .int .i64 ((l.length - 1 - x.1 : Nat) : Int), .int .u8 (l.getD (l.length - 1 - x.1) 0).toNat, .slice (some ⟨b, o, none⟩) m c, .func (.func 176) #[] #[.pointer (some ⟨w.heap.size + 1, 0, none⟩)], .int .i64 ((l.length - 1 - x.1 : Nat) : Int), .int .u8 (l.getD (l.length - 1 - x.1) 0).toNat, undef, undef, undef, undef, undef, undef, undef], defers := [] })
  (fun x a' _ X Y row hs hg hr => hs)
  ?assign ?body ?done ?stop
 case assign =>
  rintro y pre x W K hi hK
  have hK' := hK _ _ ((KeepsOthers.refl W).from _) (Kp.refl _ W) hi rfl
  have HK := hHd hK'
  clear hK hK'
  have hc : ∃ i v, backAt l x.1 = #[.int .i64 i, .int .u8 v] /\ (((l.length - 1 - x.1 : Nat)) : Int) = i /\ (((l.getD (l.length - 1 - x.1) 0).toNat : Nat) : Int) = v := ⟨_, _, rfl, rfl, rfl⟩
  obtain ⟨i, v, hc, h1, h2⟩ := hc
  rw [hc]
  rw [h1, h2] at HK
  clear hc h1 h2
  gi_wp2
  exact HK.out
 case body =>
  rintro y pre x a' W hl ⟨_, _⟩ ⟨hz, hI⟩ rfl hlt
  rw [HM.out]
  have hx1 := x.2
  obtain ⟨i, hi⟩ : ∃ i, m - 1 - x.1 = i := ⟨_, rfl⟩
  obtain ⟨v, hv⟩ : ∃ v, l.getD i 0 = v := ⟨_, rfl⟩
  have him : (i : Int) <= 1048576 := by omega
  have hgn : 0 < m := by omega
  have HI := hHd hI
  have HX : Hid (m - 1 - x.1 = i) := hHd hi
  have HV : Hid (l.getD i 0 = v) := hHd hv
  have Hz := hHd hz
  rw [hi, hv]
  clear hi hv hz hI hx1
  by_cases h0 : v = 0
  ·have HZ0 := hHd h0
   subst h0
   gi_wp2
   refine ⟨(KeepsOthers.refl W).from _, Kp.refl _ W, ?_, ⟨HI.out.box, HI.out.bs, HI.out.kp⟩⟩
   intro y hy
   rcases List.mem_append.1 hy with hy | hy
   ·exact Hz.out y hy
   ·obtain rfl : y = x := by simpa using hy
    rw [HX.out, HV.out]
  ·have hne : ((v.toNat : Int) != 0) = true := by
    have : v.toNat ≠ 0 := fun e => h0 (UInt8.toNat_inj.1 (by rw [e]; rfl))
    simp; omega
   have hl8 := len8_le v
   have HL := hHd (len8_any v W)
   have HN := hHd h0
   clear h0
   obtain ⟨n8, hn8⟩ : ∃ n8, len8 v.toNat = n8 := ⟨_, rfl⟩
   rw [hn8] at hl8 HL
   have HN8 := hHd hn8
   have hc := HI.out.box.cell 0
   have hf := HI.out.box.free 0
   clear hn8
   simp at hc
   gi_wp2_with (first | (gi_at_call 162; refine (callsIn_wide.2 HL.out).mono ?_; rintro e w' ⟨rfl, rfl⟩) | fail)
   refine ⟨(KeepsOthers.setCell W _ _).from _, rfl, pre, x, rfl, Hz.out, by rw [HX.out, HV.out]; exact HN.out, ?_⟩
   rw [HX.out, HV.out, HN8.out]
   have e : ((i : Int) * 8 + n8) = ((i * 8 + n8 : Nat) : Int) := by omega
   rw [e]
   exact ⟨HI.out.box.put 0 (.int .i64 ((i * 8 + n8 : Nat) : Int)), HI.out.bs.far (p := ⟨w.heap.size, 0, none⟩) (by simp) _, HI.out.kp.setCell (p := ⟨w.heap.size, 0, none⟩) (.inl (Nat.le_refl _)) _⟩
 case done =>
  rintro D xs W hD rfl ⟨hz, hI⟩ hdef
  have hend : BEnd l 0 := bend_none l fun i hi => by
   have h1 : i < m := by have := HM.out; omega
   have := hz ⟨m - 1 - i, by omega⟩ (List.mem_finRange _)
   rwa [show m - 1 - (m - 1 - i) = i by omega] at this
  have HE := hHd hend
  have HI := hHd hI
  have hc := HI.out.box.cell 0
  have hf := HI.out.box.free 0
  simp at hc
  clear hz hI hend
  gi_wp2
  have hdef2 : (W.setCell ⟨w.heap.size, 0, none⟩ (.int .i64 0)).heap[D]? = some (.deferred (some [])) := by
   rw [Below.heap_setCell _ _ _ _ (by show D ≠ w.heap.size; omega)]
   exact hdef
  refine ⟨by simp, .inl ⟨_, _, rfl, run_takeDeferred hdef2, ?_⟩⟩
  have b1 := HI.out.box.put 0 (.int .i64 0)
  have b2 := b1.off (grownBy_putObj' (W.setCell ⟨w.heap.size, 0, none⟩ (.int .i64 0)) D (.deferred none)) (fun r e => by cases e; exact ⟨_, hdef2, rfl⟩)
  have k1 := HI.out.kp.setCell (p := ⟨w.heap.size, 0, none⟩) (.inl (Nat.le_refl _)) (.int .i64 0)
  have k2 := k1.grown (grownBy_putObj' (W.setCell ⟨w.heap.size, 0, none⟩ (.int .i64 0)) D (.deferred none)) (fun k e => .inl (by cases e; omega))
  exact ⟨_, results_cell_int rfl _ _ w.heap.size 0 rfl (b2.cell 0), 0, rfl, HE.out, k2⟩
 case stop =>
  rintro D cd pre W hD ⟨k, hk, hpre⟩ ⟨rfl, pre', x, hp, hz, hne, hI⟩ hdef
  have hend : BEnd l ((m - 1 - x.1) * 8 + len8 (l.getD (m - 1 - x.1) 0).toNat) := by
   have hx := x.2
   have hm := HM.out
   refine bend_at l _ (by omega) hne fun i h1 h2 => ?_
   have hy := take_before m k hk pre' x (hp.symm.trans hpre) ⟨m - 1 - i, by omega⟩ (by show m - 1 - i < x.1; omega)
   have := hz _ hy
   rwa [show m - 1 - (m - 1 - i) = i by omega] at this
  have HE := hHd hend
  have HI := hHd hI
  generalize (m - 1 - x.1) * 8 + len8 (l.getD (m - 1 - x.1) 0).toNat = z at *
  clear hz hI hend hne
  gi_wp2
  refine ⟨by simp, .inl ⟨_, _, rfl, run_takeDeferred hdef, ?_⟩⟩
  have b2 := HI.out.box.off (grownBy_putObj' W D (.deferred none)) (fun r e => by cases e; exact ⟨_, hdef, rfl⟩)
  have k2 := HI.out.kp.grown (grownBy_putObj' W D (.deferred none)) (fun k e => .inl (by cases e; omega))
  exact ⟨_, results_cell_int rfl _ _ w.heap.size (z : Int) rfl (b2.cell 0), z, rfl, HE.out, k2⟩
theorem end_any (b o c : Nat) (l : List UInt8) (w : World) (hmx : l.length <= 1048576) (hpos : 0 < l.length) (hcn : ∀ j u, l[j]? = some u -> w.cell? ⟨b, o + j, none⟩ = some (.int .u8 u.toNat)) :
  Calls Tryz.prog 146 #[.slice (some ⟨b, o, none⟩) l.length c] w fun e w' => ∃ z : Nat, e = .returned (.int .i64 (z : Int)) /\ BEnd l z /\ Kp (fun _ => False) w w' :=
 callsIn_wide.1 (end_in b o c l w hmx hpos hcn)
end Go.Proofs.YtepaeliamhjgiaaGreatDoor.Bt
namespace Go.Proofs.YtepaeliamhjgiaaGreatDoor.Bt
open Go.RowKit
theorem zlit : #[.int .u64 0, .int .u64 0, .int .u64 0, .int .u64 0, .int .u64 0, .int .u64 0, .int .u64 0, .int .u64 0, .int .u64 0, .int .u64 0, .int .u64 0, .int .u64 0, .int .u64 0, .int .u64 0, .int .u64 0, .int .u64 0, .int .i64 0] = (mcs nof 0).toArray := by rw [<- zcs_eq]; rfl
theorem zlit_n (i : Int) (h : 0 <= i) : ([.int .u64 0, .int .u64 0, .int .u64 0, .int .u64 0, .int .u64 0, .int .u64 0, .int .u64 0, .int .u64 0, .int .u64 0, .int .u64 0, .int .u64 0, .int .u64 0, .int .u64 0, .int .u64 0, .int .u64 0, .int .u64 0, .int .i64 i] : List Value) = mcs nof i.toNat := by
 rw [<- zcs_eq, zcs, Int.toNat_of_nonneg h]
theorem zone (i : Int) : ∀ v ∈ ([.int .u64 0, .int .u64 0, .int .u64 0, .int .u64 0, .int .u64 0, .int .u64 0, .int .u64 0, .int .u64 0, .int .u64 0, .int .u64 0, .int .u64 0, .int .u64 0, .int .u64 0, .int .u64 0, .int .u64 0, .int .u64 0, .int .i64 i] : List Value), v.oneCell' = true := fun v hv => by
 simp only [List.mem_cons, List.not_mem_nil, or_false] at hv
 rcases hv with rfl | rfl | rfl | rfl | rfl | rfl | rfl | rfl | rfl | rfl | rfl | rfl | rfl | rfl | rfl | rfl | rfl <;> rfl
theorem new_any (i : Int) (w : World) :
  Calls Tryz.prog 94 #[.int .i64 i] w fun e w' => e = .returned (.tuple #[.agg (mcs nof (if 1 <= i /\ i <= 1024 then i.toNat else 0)).toArray, .int .i64 (if 1 <= i /\ i <= 1024 then 0 else 2)]) /\ Kp (fun _ => False) w w' := by
 have Hr : Hid (Tryz.f94.results = #[.cell 2 82, .tmp 3]) := hHd (by kernel_rfl)
 obtain ⟨W, hW, hb, hk⟩ : ∃ W, W = w.alloc (.cells #[.int .u64 0, .int .u64 0, .int .u64 0, .int .u64 0, .int .u64 0, .int .u64 0, .int .u64 0, .int .u64 0, .int .u64 0, .int .u64 0, .int .u64 0, .int .u64 0, .int .u64 0, .int .u64 0, .int .u64 0, .int .u64 0, .int .i64 0] 82) /\ Box W w.heap.size 82 #[.int .u64 0, .int .u64 0, .int .u64 0, .int .u64 0, .int .u64 0, .int .u64 0, .int .u64 0, .int .u64 0, .int .u64 0, .int .u64 0, .int .u64 0, .int .u64 0, .int .u64 0, .int .u64 0, .int .u64 0, .int .u64 0, .int .i64 0] /\ Kp (fun _ => False) w W := ⟨_, rfl, Box.new w _ _, (Kp.refl _ w).alloc _⟩
 have HW := hHd hW
 have HB := hHd hb
 have K := hHd hk
 clear hb hk hW
 by_cases h : 1 <= i /\ i <= 1024
 ·rw [if_pos h, if_pos h]
  obtain ⟨h0, h1⟩ := h
  have H0 := hHd (show 0 <= i by omega)
  go_enter Tryz.func94, Tryz.ntmps94
  go_upto_region 1 with fail
  rw [<- HW.out]
  go_wp2_with (refine bstore_box rfl 82 (.tmp 2) (.tmp 12) rfl w.heap.size ([.int .u64 0, .int .u64 0, .int .u64 0, .int .u64 0, .int .u64 0, .int .u64 0, .int .u64 0, .int .u64 0, .int .u64 0, .int .u64 0, .int .u64 0, .int .u64 0, .int .u64 0, .int .u64 0, .int .u64 0, .int .u64 0, .int .i64 i]) rfl rfl HB.out rfl infoMap (zone _) ?_; intro w5 hb5 hk5)
  refine bodyPost_ret (v := .tuple #[.agg ([.int .u64 0, .int .u64 0, .int .u64 0, .int .u64 0, .int .u64 0, .int .u64 0, .int .u64 0, .int .u64 0, .int .u64 0, .int .u64 0, .int .u64 0, .int .u64 0, .int .u64 0, .int .u64 0, .int .u64 0, .int .u64 0, .int .i64 i]).toArray, .int .i64 0]) ?_ rfl ⟨by rw [zlit_n i H0.out], K.out.trans_new hk5 (fun k e => .inl (by omega))⟩
  exact bresults_two Hr.out _ _ w.heap.size 82 _ (0, 0) _ rfl hb5 Tryz.underlying82 rfl infoMap
 ·rw [if_neg h, if_neg h]
  by_cases h0 : i < 1
  ·skip
   go_enter Tryz.func94, Tryz.ntmps94
   go_upto_region 1 with fail
   rw [<- HW.out]
   go_wp2_with (refine bstore_box rfl 82 (.tmp 2) (.tmp 10) rfl w.heap.size ([.int .u64 0, .int .u64 0, .int .u64 0, .int .u64 0, .int .u64 0, .int .u64 0, .int .u64 0, .int .u64 0, .int .u64 0, .int .u64 0, .int .u64 0, .int .u64 0, .int .u64 0, .int .u64 0, .int .u64 0, .int .u64 0, .int .i64 0]) rfl rfl HB.out rfl infoMap (zone _) ?_; intro w5 hb5 hk5)
   refine bodyPost_ret (v := .tuple #[.agg ([.int .u64 0, .int .u64 0, .int .u64 0, .int .u64 0, .int .u64 0, .int .u64 0, .int .u64 0, .int .u64 0, .int .u64 0, .int .u64 0, .int .u64 0, .int .u64 0, .int .u64 0, .int .u64 0, .int .u64 0, .int .u64 0, .int .i64 0]).toArray, .int .i64 2]) ?_ rfl ⟨by rw [<- zlit], K.out.trans_new hk5 (fun k e => .inl (by omega))⟩
   exact bresults_two Hr.out _ _ w.heap.size 82 _ (0, 0) _ rfl hb5 Tryz.underlying82 rfl infoMap
  ·have h1 : ¬ i <= 1024 := fun e => h ⟨by omega, e⟩
   clear h
   go_enter Tryz.func94, Tryz.ntmps94
   go_upto_region 1 with fail
   rw [<- HW.out]
   go_wp2_with (refine bstore_box rfl 82 (.tmp 2) (.tmp 10) rfl w.heap.size ([.int .u64 0, .int .u64 0, .int .u64 0, .int .u64 0, .int .u64 0, .int .u64 0, .int .u64 0, .int .u64 0, .int .u64 0, .int .u64 0, .int .u64 0, .int .u64 0, .int .u64 0, .int .u64 0, .int .u64 0, .int .u64 0, .int .i64 0]) rfl rfl HB.out rfl infoMap (zone _) ?_; intro w5 hb5 hk5)
   refine bodyPost_ret (v := .tuple #[.agg ([.int .u64 0, .int .u64 0, .int .u64 0, .int .u64 0, .int .u64 0, .int .u64 0, .int .u64 0, .int .u64 0, .int .u64 0, .int .u64 0, .int .u64 0, .int .u64 0, .int .u64 0, .int .u64 0, .int .u64 0, .int .u64 0, .int .i64 0]).toArray, .int .i64 2]) ?_ rfl ⟨by rw [<- zlit], K.out.trans_new hk5 (fun k e => .inl (by omega))⟩
   exact bresults_two Hr.out _ _ w.heap.size 82 _ (0, 0) _ rfl hb5 Tryz.underlying82 rfl infoMap
def hasB (f : Nat -> Bool) (n : Nat) (i : Int) : Bool := !pgB n i || f i.toNat
theorem int_one (b : Bool) : (((if b then 1 else 0 : Nat) : Int) == 1) = b := by cases b <;> rfl
theorem has_any (f : Nat -> Bool) (n : Nat) (i : Int) (w : World) (hn : n <= 1024) :
  Calls Tryz.prog 97 #[.agg (mcs f n).toArray, .int .i64 i] w fun e w' => e = .returned (.bool (hasB f n i)) /\ Kp (fun _ => False) w w' := by
 obtain ⟨W, hW, hb, hk⟩ : ∃ W, W = w.alloc (.cells (mcs f n).toArray 82) /\ Mp W w.heap.size f n /\ Kp (fun _ => False) w W := ⟨_, rfl, Mp.new w f n, (Kp.refl _ w).alloc _⟩
 have HW := hHd hW
 have K := hHd hk
 have HB := hHd hb
 clear hW hb hk
 have hp := hHd (ispage_any f n i W)
 rcases hpg : pgB n i with _ | _
 ·have hx : hasB f n i = true := by simp [hasB, hpg]
  rw [hx]
  rw [hpg] at hp
  clear hx hpg
  go_enter Tryz.func97, Tryz.ntmps97
  go_upto_region 1 with fail
  rw [<- HW.out]
  go_wp2_with (first | (refine wpList_load_mid rfl 82 (.tmp 2) rfl w.heap.size 0 rfl (mcs f n) _ (Mp.range HB.out) Tryz.underlying82 rfl (infoMca _ _) ?_) | fail)
  refine hp.out.mono ?_
  rintro e w1 ⟨rfl, k1⟩
  have K1 := hHd (K.out.trans k1)
  clear k1
  go_wp2_with fail
  go_ret
  exact ⟨rfl, K1.out⟩
 ·obtain ⟨h0, h1⟩ : 0 <= i /\ i < n := by simpa [pgB] using hpg
  rw [hpg] at hp
  have hx : hasB f n i = f i.toNat := by simp [hasB, hpg]
  rw [hx]
  obtain ⟨k, rfl⟩ := Int.eq_ofNat_of_zero_le h0
  have hk : k < 1024 := by omega
  have e1 : ((k : Int)).toNat = k := rfl
  rw [e1]
  clear hx hpg h0 h1 e1
  have hq : k / 64 < 16 := by omega
  have hs : k % 64 < 64 := Nat.mod_lt _ (by decide)
  have hbit : Hid (f k = (wd f (k / 64)).testBit (k % 64)) := hHd (by
   rw [wd_bit, show 64 * (k / 64) + k % 64 = k by omega]; simp [hs])
  have hpl := hHd (place_any k)
  have y := fun w1 (hk : Kp (fun _ => False) W w1) => (HB.out.kp hk (fun h => h)).word (k / 64) hq
  have Y := hHd y
  have hxl := wd_lt f (k / 64)
  have Hx := hHd hxl
  rw [hbit.out]
  clear y hbit hxl
  obtain ⟨q, hqe⟩ : ∃ q, k / 64 = q := ⟨_, rfl⟩
  obtain ⟨s, hse⟩ : ∃ s, k % 64 = s := ⟨_, rfl⟩
  rw [hqe] at hq
  rw [hse] at hs
  rw [hqe, hse] at hpl ⊢
  rw [hqe] at Y Hx
  obtain ⟨x, hxe⟩ : ∃ x, wd f q = x := ⟨_, rfl⟩
  rw [hxe] at Y Hx ⊢
  have hb1 := bit_one x s
  have hbit : bits .and .u64 ((x / 2 ^ s : Nat) : Int) 1 = ((if x.testBit s then 1 else 0 : Nat) : Int) := by
   rw [<- hb1]
   exact u64_and_nat (x / 2 ^ s) 1 (Nat.lt_of_le_of_lt (Nat.div_le_self _ _) Hx.out) (by decide)
  have hfin : (bits .and .u64 ((x / 2 ^ s : Nat) : Int) 1 == 1) = x.testBit s := by rw [hbit, int_one]
  have Hf := hHd hfin
  clear hqe hse hxe hb1 hbit hfin
  have hqi : (q : Int) < 16 := by omega
  have hsi : (s : Int) < 64 := by omega
  go_enter Tryz.func97, Tryz.ntmps97
  go_upto_region 1 with fail
  rw [<- HW.out]
  go_wp2_with (first | (refine wpList_load_mid rfl 82 (.tmp 2) rfl w.heap.size 0 rfl (mcs f n) _ (Mp.range HB.out) Tryz.underlying82 rfl (infoMca _ _) ?_) | fail)
  refine hp.out.mono ?_
  rintro e w1 ⟨rfl, k1⟩
  have K1 := hHd (K.out.trans k1)
  have y1 := Y.out w1 k1
  clear k1
  go_wp2_with fail
  refine (hpl.out w1 (by omega)).mono ?_
  rintro e w1 ⟨rfl, rfl⟩
  go_wp2_with fail
  go_ret
  exact ⟨by rw [<- Hf.out]; simp, K1.out⟩
end Go.Proofs.YtepaeliamhjgiaaGreatDoor.Bt
