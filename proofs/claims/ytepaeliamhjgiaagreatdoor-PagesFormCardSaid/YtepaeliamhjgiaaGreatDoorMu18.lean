/- The law of pages, part 18 of 55: ShCut ShTexts ShelfK WlTexts. -/
import Derived.Test.YtepaeliamhjgiaaGreatDoorMu17
import Derived.Maps.AppendAt
import Derived.Deep.DeepMust
import Derived.Test.YtepaeliamhjgiaaGreatDoorMu9
import Derived.Test.YtepaeliamhjgiaaGreatDoorMu11
import Derived.Laws.StructEq
import Derived.Shelf.SlicesE.Equal
import Derived.Test.YtepaeliamhjgiaaGreatDoorMu1
import Derived.Shelf.Strings.BuilderK
import Derived.Test.YtepaeliamhjgiaaGreatDoorMu14
import Derived.Deep.LoopGhost
set_option maxHeartbeats 16000000
set_option maxRecDepth 100000
namespace Go.Proofs.YtepaeliamhjgiaaGreatDoor
open Go.RowKit Go.Shelf
attribute [local go_sem] Oper.semAt_some
def rowS (l : List Sh) : List Value := (l.map fun s => (cells3 s).toList).flatten
theorem rowS_length (l : List Sh) : (rowS l).length = l.length * 3 := by
 induction l with
 |nil => rfl
 |cons s l ih =>
  show ((cells3 s).toList ++ rowS l).length = _
  rw [List.length_append, ih, List.length_cons]
  simp [cells3]
  omega
theorem rowS_snoc (l : List Sh) (s : Sh) : rowS (l ++ [s]) = rowS l ++ (cells3 s).toList := by simp [rowS]
theorem info_row : (Tryz.prog.info? 172).map (fun i => (i.zero, i.size, i.bytes)) = some (some (.agg #[.int .u64 0, .bool false, .string ⟨#[]⟩]), 3, 32) := by kernel_rfl
theorem info3 {P : Program} {e : TypeId} {z : Value} {n b : Nat} (h : (P.info? e).map (fun i => (i.zero, i.size, i.bytes)) = some (some z, n, b)) : ∃ i0, P.info? e = some i0 /\ i0.zero = some z /\ i0.size = n /\ i0.bytes = b := by
 rcases hi : P.info? e with _ | i0
 ·rw [hi] at h; cases h
 ·rw [hi] at h
  simp only [Option.map_some, Option.some.injEq, Prod.mk.injEq] at h
  exact ⟨i0, rfl, h.1, h.2.1, h.2.2⟩
theorem own_shape3 {w : World} {base : Nat} {e : TypeId} {size n : Nat} {v : Value} {xs : List Value} (h : w.ownsRow base e size v n xs) : ∃ A c, v = .slice A n c := by
 rcases h.2 with ⟨rfl, rfl⟩ | ⟨g, cap, _, rfl, _⟩
 ·exact ⟨_, _, rfl⟩
 ·exact ⟨_, _, rfl⟩
theorem kpK_b {w : World} {S : Nat -> Prop} (hS : ∀ k, w.heap.size <= k -> S k) (W : World) (l : Nat) (o o' : Obj) (hl : w.heap.size <= l) (_ : W.heap[l]? = some o) (_ : o.isCells = false) (_ : o.isWalk = false) : Kp S W (W.putObj l o') :=
 (Kp.refl S W).grown (grownBy_putObj' W l o') (fun k e => by cases e; exact .inr (hS _ hl))
structure CutI (w : World) (gl q : Nat) (tx : List UInt8) (pre : List Sh) (W : World) : Prop where
 row : ∃ v, Boxed W gl 206 v /\ W.ownsRow w.heap.size 172 3 v pre.length (rowS pre)
 kp : Kp (fun _ => False) w W
 bq : Box W (gl + 1) 79 #[.int .u64 q]
 bt : Box W (gl + 1 + 1) 9 #[.string ⟨tx.toArray⟩]
theorem Box.off {W W' : World} {g : Nat} {t : TypeId} {cs : Array Value} {row : Option Nat} (h : Box W g t cs) (hg : W.grownBy W' row) (hr : ∀ r, row = some r -> ∃ o : Obj, W.heap[r]? = some o /\ o.isCells = false) : Box W' g t cs :=
 h.grown hg fun e => by
  obtain ⟨o, ho, hc⟩ := hr g e.symm
  unfold Box at h
  rw [h] at ho
  cases ho
  cases hc
theorem own_off {W W' : World} {base : Nat} {e : TypeId} {size n : Nat} {v : Value} {xs : List Value} {row : Option Nat} (h : W.ownsRow base e size v n xs) (hg : W.grownBy W' row) (hr : ∀ r, row = some r -> ∃ o : Obj, W.heap[r]? = some o /\ o.isCells = false) : W'.ownsRow base e size v n xs := by
 refine ⟨h.1, ?_⟩
 rcases h.2 with h2 | ⟨g, cap, cur, rfl, hb, hh, r⟩
 ·exact .inl h2
 ·have hb2 : Box W g e cur := hh
  exact .inr ⟨g, cap, cur, rfl, hb, hb2.off hg hr, r⟩
theorem CutI.off {w : World} {gl q : Nat} {tx : List UInt8} {pre : List Sh} {W W' : World} {row : Option Nat} (h : CutI w gl q tx pre W) {B : Nat} (hB : w.heap.size <= B) (hg : W.grownBy W' row) (hr : ∀ r, row = some r -> B <= r /\ ∃ o : Obj, W.heap[r]? = some o /\ o.isCells = false) : CutI w gl q tx pre W' := by
 have hr' := fun r e => (hr r e).2
 obtain ⟨v, hv, ho⟩ := h.row
 have hv' : Box W gl 206 #[v] := hv
 exact ⟨⟨v, hv'.off hg hr', own_off ho hg hr'⟩, h.kp.grown hg (fun k e => .inl (Nat.le_trans hB (hr k e).1)), h.bq.off hg hr', h.bt.off hg hr'⟩
theorem CutI.alloc {w : World} {gl q : Nat} {tx : List UInt8} {pre : List Sh} {W : World} (h : CutI w gl q tx pre W) (o : Obj) : CutI w gl q tx pre (W.alloc o) := by
 obtain ⟨v, hv, ho⟩ := h.row
 exact ⟨⟨v, hv.alloc o, ho.alloc o⟩, h.kp.alloc o, h.bq.alloc o, h.bt.alloc o⟩
theorem cut_in (q : Nat) (tx : List UInt8) (w : World) (hq : q < 18446744073709551616) (hm : tx.length <= 4294967296) :
  CallsIn Fence.wide 3 Tryz.prog 155 #[.int .u64 q, .string ⟨tx.toArray⟩] w fun e w' => ∃ v, e = .returned v /\ w'.ownsRow w.heap.size 172 3 v (need tx.length) (rowS (cutL q tx)) /\ Kp (fun _ => False) w w' := by
 have hF : ∀ f, Fence.wide.fn f := fun _ => trivial
 have hro : Fence.wide.round = none := rfl
 obtain ⟨i0, hi, hz0, hz1, hz2⟩ := info3 info_row
 obtain ⟨m, hnm⟩ : ∃ m, need tx.length = m := ⟨_, rfl⟩
 have hml : m <= 4294967296 := by rw [<- hnm]; unfold need; omega
 have hnd := need_any tx.length w (by omega)
 rw [hnm] at hnd
 refine callsIn_of_wp_marks Tryz.func155 rfl (hF _) ?_ hro
 simp only [Tryz.ntmps155, List.size_toArray, List.length_cons, List.length_nil, Nat.reduceAdd, Nat.reduceSub, Array.replicate_succ, Array.replicate_zero, List.push_toArray, List.append_toArray, List.nil_append, List.cons_append]
 gi_wp2_with (first | (gi_at_call 125; refine (callsIn_wide.2 hnd).mono ?_; clear hnd; rintro e w' ⟨rfl, rfl⟩) | (gi_at_make; refine wpListIn_make_own _ rfl (.const (.int .i64 0)) (.tmp 9) 206 rfl w.heap.size 172 i0 _ 3 Tryz.underlying206 hi hz0 hz1 .i64 .i64 (m : Int) m rfl rfl rfl (by rw [hz2]; omega) (by unfold maxLen; omega) (Nat.le_refl _) ?_; intro w1 hown hgrow) | (gi_at_call 170; refine (sheets_in Fence.wide (3 - 1) (hF _) hro _ _ _).mono ?_; rintro e w' ⟨rfl, rfl⟩))
 have hsz1 : w.heap.size <= w1.heap.size := hgrow.size
 obtain ⟨gl, hgl⟩ : ∃ gl, w1.heap.size = gl := ⟨_, rfl⟩
 have hI0 : CutI w w1.heap.size q tx [] (((w1.alloc (.cells #[.slice (some ⟨w.heap.size, 0, none⟩) 0 m] 206)).alloc (.cells #[.int .u64 q] 79)).alloc (.cells #[.string ⟨tx.toArray⟩] 9)) := by
  have b2 := (Box.new (w1.alloc (.cells #[.slice (some ⟨w.heap.size, 0, none⟩) 0 m] 206)) 79 #[.int .u64 q]).alloc (.cells #[.string ⟨tx.toArray⟩] 9)
  have b3 := Box.new ((w1.alloc (.cells #[.slice (some ⟨w.heap.size, 0, none⟩) 0 m] 206)).alloc (.cells #[.int .u64 q] 79)) 9 #[.string ⟨tx.toArray⟩]
  simp only [World.size_alloc] at b2 b3
  exact ⟨⟨_, ((Boxed.new w1 _ _).alloc _).alloc _, ((hown.alloc _).alloc _).alloc _⟩, ((((Kp.refl _ w).grown hgrow (fun k e => by cases e)).alloc _).alloc _).alloc _, b2, b3⟩
 have hsz : (((w1.alloc (.cells #[.slice (some ⟨w.heap.size, 0, none⟩) 0 m] 206)).alloc (.cells #[.int .u64 q] 79)).alloc (.cells #[.string ⟨tx.toArray⟩] 9)).heap.size = w1.heap.size + 3 := by simp
 generalize ((w1.alloc (.cells #[.slice (some ⟨w.heap.size, 0, none⟩) 0 m] 206)).alloc (.cells #[.int .u64 q] 79)).alloc (.cells #[.string ⟨tx.toArray⟩] 9) = W0 at *
 rw [hgl] at hI0 hsz hsz1 ⊢
 refine wpIn_rangeFunc_ownH hro (by omega) (gf := 185) (lb := #[.pointer (some ⟨gl + 1, 0, none⟩), .pointer (some ⟨gl + 1 + 1, 0, none⟩)]) rfl (hF _) (enters_of Tryz.func185 (by kernel_rfl) rfl)
  (sheets_stops Fence.wide (3 - 1) (hF _) hro (by omega) (gl + 1) (gl + 1 + 1) q m tx (by omega) hnm hq W0 (by omega) (by omega) (hI0.bq.cell 0) (hI0.bt.cell 0)) (fun h k => h.trans k) (kpK_b (fun k hk => by omega)) (Below.refl _ _) (fun _ => rfl)
  (fun (pre : List (Fin m)) W => CutI w gl q tx (pre.map fun x => shAt q tx x.1) W)
  (fun _ _ _ => False)
  (fun s A B row hs hg hr => show CutI w gl q tx (s.map fun x => shAt q tx x.1) B from CutI.off hs (by omega) hg hr)
  (fun _ _ _ _ _ hs _ _ => hs)
  hI0
  (fun x a' W => ∃ Bx, gl + 1 + 1 < Bx /\ Box W Bx 172 (cells3 (shAt q tx x.1)) /\ a' = { tmps := #[.int .u64 q, .string ⟨tx.toArray⟩, undef, undef, .slice none 0 0, .pointer (some ⟨gl, 0, none⟩), .pointer (some ⟨Bx, 0, none⟩), .string ⟨tx.toArray⟩, .int .i64 tx.length, .int .i64 m, .slice (some ⟨w.heap.size, 0, none⟩) 0 m, .int .u64 q, .string ⟨tx.toArray⟩, .func (.func 185) #[] #[.pointer (some ⟨gl + 1, 0, none⟩), .pointer (some ⟨gl + 1 + 1, 0, none⟩)], .agg (cells3 (shAt q tx x.1)), undef, undef, undef, undef, undef], defers := [] })
  (fun x a' _ X Y row hs hg hr => by obtain ⟨Bx, h1, h2, h3⟩ := hs; exact ⟨Bx, h1, h2.off hg (fun r e => (hr r e).2), h3⟩)
  ?assign ?body ?done ?stop
 case stop =>
  rintro D c pre W _ _ h _
  exact h.elim
 case assign =>
  rintro l pre x W K hi hK
  have hlt := hi.bt.lt
  have hn := Box.new W 172 (cells3 (shAt q tx x.1))
  have hc : ∃ a b c, cells3 (shAt q tx x.1) = #[.int .u64 a, .bool b, .string c] := ⟨_, _, _, rfl⟩
  have hA := hi.alloc (.cells (cells3 (shAt q tx x.1)) 172)
  have hK' := hK _ _ ((KeepsOthers.alloc W (.cells (cells3 (shAt q tx x.1)) 172)).from _) ((Kp.refl _ W).alloc (.cells (cells3 (shAt q tx x.1)) 172)) hA ⟨W.heap.size, by omega, hn, rfl⟩
  have HK := hHd hK'
  clear hK hK' hA hn
  obtain ⟨a, b, c, hc⟩ := hc
  rw [hc] at HK ⊢
  gi_wp2
  exact HK.out
 case body =>
  rintro l pre x a' W hl ⟨_, _⟩ hI ⟨Bx, hBx, bX, rfl⟩ hlt
  obtain ⟨v, hv, hrow⟩ := hI.row
  have hc5 := hv.cell
  have hpl : pre.length < m := hlt
  obtain ⟨a, b, c, hc⟩ : ∃ a b c, cells3 (shAt q tx x.1) = #[.int .u64 a, .bool b, .string c] := ⟨_, _, _, rfl⟩
  have HC := hHd hc
  rw [hc] at bX
  have hx0 := bX.cell 0
  have hx1 := bX.cell 1
  have hx2 := bX.cell 2
  simp at hx0 hx1 hx2
  have HI := hHd hI
  have HV := hHd hv
  have HRow := hHd hrow
  clear hc hI hv hrow bX
  try rw [HC.out]
  obtain ⟨ps, hps⟩ : ∃ ps, (pre.map fun (x : Fin m) => shAt q tx x.1) = ps := ⟨_, rfl⟩
  have hpsl : ps.length < m := by rw [<- hps, List.length_map]; exact hpl
  rw [hps] at HI HRow
  have hWs := HI.out.kp.size
  have hn3 : ((cells3 (shAt q tx x.1)).toList).length = 1 * 3 := rfl
  have hnew : ∀ (j : Nat) (u : Value), (cells3 (shAt q tx x.1)).toList[j]? = some u -> (W.alloc (.cells #[.int .u64 a, .bool b, .string c] 172)).cell? ((⟨W.heap.size, 0, none⟩ : Addr).add j) = some u := by
   intro j u hu
   have e : (⟨W.heap.size, 0, none⟩ : Addr).add j = ⟨W.heap.size, j, none⟩ := by unfold Addr.add; split <;> simp_all
   rw [e, (Box.new W 172 _).cell]
   rw [HC.out] at hu
   simpa using hu
  have hone : ∀ u ∈ (cells3 (shAt q tx x.1)).toList, u.oneCell' = true := by
   intro u hu
   rw [HC.out] at hu
   simp only [List.mem_cons, List.not_mem_nil, or_false] at hu
   rcases hu with rfl | rfl | rfl <;> rfl
  gi_wp2_with (gi_at_builtin; go_must (refine wpListIn_append_own _ rfl (.tmp 15) (.tmp 17) 206 rfl w.heap.size 172 i0 _ 3 32 Tryz.underlying206 hi hz0 hz1 hz2 rfl (by decide) v ps.length _ rfl (HRow.out.alloc _) ⟨W.heap.size, 0, none⟩ 1 1 (cells3 (shAt q tx x.1)).toList rfl hn3 hnew hone (by unfold maxLen; omega) (by omega) (by simp; omega) ?_; intro v' w2 hown2 hgrow2 _; obtain ⟨A', c', rfl⟩ := own_shape3 hown2; obtain ⟨hv1, hv2, hr2, hk2, hb2⟩ := HV.out.appended (by decide) HRow.out hWs (by omega) hown2 hgrow2; have hcl := hv1.cell; have hcf := hv1.frozen; have HK2 := hHd hk2; have HV2 := hHd hv2; have HR2 := hHd hr2; have HG2 := hHd hgrow2; clear hv1 hv2 hr2 hk2 hb2 hown2 hgrow2))
  have hne1 : v.ownBlock ≠ some (gl + 1) := HI.out.bq.own_ne HRow.out (by decide)
  have hne2 : v.ownBlock ≠ some (gl + 1 + 1) := HI.out.bt.own_ne HRow.out (by decide)
  have hkp : Kp (fun k => k ≠ gl + 1 /\ k ≠ gl + 1 + 1) W (w2.setCell ⟨gl, 0, none⟩ (.slice A' (ps.length + 1) c')) :=
   (((Kp.refl _ W).alloc (.cells #[.int .u64 a, .bool b, .string c] 172)).grown HG2.out (fun k e => .inr ⟨fun e2 => hne1 (by rw [e, e2]), fun e2 => hne2 (by rw [e, e2])⟩)).setCell (.inr ⟨by simp, by show gl ≠ gl + 1 + 1; omega⟩) _
  have hown : ∀ k, v.ownBlock = some k -> w.heap.size <= k := fun k e => (HRow.out.lt k e).1
  have hkw : Kp (fun _ => False) w (w2.setCell ⟨gl, 0, none⟩ (.slice A' (ps.length + 1) c')) :=
   ((HI.out.kp.alloc (.cells #[.int .u64 a, .bool b, .string c] 172)).grown HG2.out (fun k e => .inl (hown k e))).setCell (.inl (by show w.heap.size <= gl; omega)) _
  refine ⟨HK2.out.from _, hkp, ?_⟩
  show CutI w gl q tx ((pre ++ [x]).map fun (x : Fin m) => shAt q tx x.1) _
  rw [List.map_append, hps]
  refine ⟨⟨_, HV2.out, ?_⟩, hkw, HI.out.bq.kp hkp (fun h => h.1 rfl), HI.out.bt.kp hkp (fun h => h.2 rfl)⟩
  rw [List.length_append]
  show (w2.setCell ⟨gl, 0, none⟩ (.slice A' (ps.length + 1) c')).ownsRow w.heap.size 172 3 _ (ps.length + 1) (rowS (ps ++ [shAt q tx x.1]))
  rw [rowS_snoc]
  exact HR2.out
 case done =>
  rintro D xs W hD rfl hI hdef
  obtain ⟨v, hv, hrow⟩ := hI.row
  have hc5 := hv.cell
  have hfin : (List.finRange m).map (fun (x : Fin m) => shAt q tx x.1) = cutL q tx := by
   rw [cutL, hnm]
   apply List.ext_getElem
   ·simp
   ·intro i h1 h2
    simp
  rw [hfin] at hrow
  have HRow := hHd hrow
  have HI := hHd hI.kp
  have HV := hHd hv
  clear hfin hrow hI hv
  gi_wp2
  refine ⟨by simp, .inl ⟨_, _, rfl, run_takeDeferred hdef, ?_⟩⟩
  have hrow2 := own_off HRow.out (grownBy_putObj' W D (.deferred none)) (fun r e => by cases e; exact ⟨_, hdef, rfl⟩)
  have hkp2 := HI.out.grown (grownBy_putObj' W D (.deferred none)) (fun k e => .inl (by cases e; omega))
  rw [cutL_length] at hrow2
  exact ⟨_, results_tmp rfl _ _ _, v, rfl, hrow2, hkp2⟩
theorem cut_any (q : Nat) (tx : List UInt8) (w : World) (hq : q < 18446744073709551616) (hm : tx.length <= 4294967296) :
  Calls Tryz.prog 155 #[.int .u64 q, .string ⟨tx.toArray⟩] w fun e w' => ∃ v, e = .returned v /\ w'.ownsRow w.heap.size 172 3 v (need tx.length) (rowS (cutL q tx)) /\ Kp (fun _ => False) w w' :=
 callsIn_wide.1 (cut_in q tx w hq hm)
end Go.Proofs.YtepaeliamhjgiaaGreatDoor
namespace Go.Proofs.YtepaeliamhjgiaaGreatDoor
open Go.RowKit
def RdS (w : World) (A : Option Addr) (l : List Sh) : Prop :=
 l = [] \/ ∃ b o, A = some ⟨b, o, none⟩ /\ ∀ j v, (rowS l)[j]? = some v -> w.cell? ⟨b, o + j, none⟩ = some v
theorem rowS_get (l : List Sh) (k : Nat) (h : k < l.length) (i : Nat) (hi : i < 3) : (rowS l)[3 * k + i]? = (cells3 l[k])[i]? := by
 induction l generalizing k with
 |nil => simp at h
 |cons s l ih =>
  show ((cells3 s).toList ++ rowS l)[3 * k + i]? = _
  have hl : (cells3 s).toList.length = 3 := rfl
  rcases k with _ | k
  ·rw [List.getElem?_append_left (by rw [hl]; omega)]
   simp
  ·rw [List.getElem?_append_right (by rw [hl]; omega), hl, show 3 * (k + 1) + i - 3 = 3 * k + i by omega, ih k (by simpa using h)]
   simp
theorem RdS.kp {S : Nat -> Prop} {w w' : World} {A : Option Addr} {l : List Sh} (h : RdS w A l) (hk : Kp S w w') (hn : ∀ a, A = some a -> ¬ S a.block) : RdS w' A l := by
 rcases h with h | ⟨b, o, rfl, hc⟩
 ·exact .inl h
 ·exact .inr ⟨b, o, rfl, fun j v hv => (hk.cell (p := ⟨b, o + j, none⟩) (World.block_lt_of_cell? w ⟨b, o + j, none⟩ (hc j v hv)) (hn ⟨b, o, none⟩ rfl)).trans (hc j v hv)⟩
theorem RdS.of_own {w : World} {base : Nat} {e : TypeId} {A : Option Addr} {n c : Nat} {l : List Sh} (h : w.ownsRow base e 3 (.slice A n c) n (rowS l)) : RdS w A l := by
 rcases h.2 with ⟨h1, h2⟩ | ⟨g, cap, cur, hv, _⟩
 ·left
  have := h.1
  rw [rowS_length] at this
  exact List.eq_nil_of_length_eq_zero (by omega)
 ·injection hv with hA
  subst hA
  refine .inr ⟨g, 0, rfl, fun j v hj => ?_⟩
  have := h.cells (g := g) rfl j v hj
  unfold Addr.add at this
  split at this
  ·next h0 => simp only [h0, Nat.add_zero]; exact this
  ·simpa using this
theorem RdS.three {w : World} {A : Option Addr} {l : List Sh} {k : Nat} (h : RdS w A l) (hk : k < l.length) : ∃ b o, A = some ⟨b, o, none⟩ /\ w.cell? ⟨b, o + 3 * k, none⟩ = some (.int .u64 l[k].q) /\ w.cell? ⟨b, o + 3 * k + 1, none⟩ = some (.bool l[k].last) /\ w.cell? ⟨b, o + 3 * k + 2, none⟩ = some (.string ⟨l[k].t.toArray⟩) := by
 rcases h with rfl | ⟨b, o, rfl, hc⟩
 ·simp at hk
 ·exact ⟨b, o, rfl, hc (3 * k + 0) (.int .u64 l[k].q) (rowS_get l k hk 0 (by omega)), by rw [Nat.add_assoc]; exact hc (3 * k + 1) (.bool l[k].last) (rowS_get l k hk 1 (by omega)), by rw [Nat.add_assoc]; exact hc (3 * k + 2) (.string ⟨l[k].t.toArray⟩) (rowS_get l k hk 2 (by omega))⟩
end Go.Proofs.YtepaeliamhjgiaaGreatDoor
namespace Go.Proofs.YtepaeliamhjgiaaGreatDoor
open Go.Shelf Go.RowKit Go.Lib
theorem Tryz.Builder_WriteString_k (B b : Nat) (bs : List Value) (s : ByteArray) (w : World) (h : Lib.IsBuilderF 178 5 B b bs w) (hlen : bs.length + s.size <= 140737488355328) (hBw : B <= w.heap.size) :
  Calls Tryz.prog 137 #[.pointer (some ⟨b, 0, none⟩), .string s] w fun e w' => e = .returned (.tuple #[.int .i64 s.size, .nilIface]) /\ (Lib.BuilderAtF 178 5 B b (.pointer (some ⟨b, 0, none⟩)) (bs ++ Lib.strCells s) w' /\ Below B w w' /\ Lib.OthersKept 5 (some b) w w') := Any.Builder_WriteString_k { Tryz.lays105 with } Tryz.Builder_Extra_105 B b bs s w h hlen hBw
theorem Tryz.Builder_String_any_k (B b : Nat) (l : List UInt8) (w : World) (h : Lib.IsBuilderF 178 5 B b (Lib.byteCells l) w) (hBw : B <= w.heap.size) :
  Calls Tryz.prog 138 #[.pointer (some ⟨b, 0, none⟩)] w fun e w' => e = .returned (.string ⟨l.toArray⟩) /\ (Lib.IsBuilderF 178 5 B b (Lib.byteCells l) w' /\ Below B w w' /\ Lib.OthersKept 5 (some b) w w') := Any.Builder_String_any_k { Tryz.lays105 with } Tryz.Builder_Extra_105 B b l w h hBw
theorem builderF_new (w : World) : Lib.IsBuilderF 178 5 w.heap.size w.heap.size (Lib.byteCells []) (w.alloc (.cells #[.pointer none, .slice none 0 0] 178)) :=
 Lib.IsBuilderF.of (.inl ⟨Nat.le_refl _, .slice none 0 0, Box.new w _ _, World.ownsRow_nil _ _ _ _, by simp [Value.ownBlock]⟩)
theorem builderF_alloc {B b : Nat} {bs : List Value} {w : World} (h : Lib.IsBuilderF 178 5 B b bs w) (o : Obj) : Lib.IsBuilderF 178 5 B b bs (w.alloc o) := by
 rcases h with ⟨h1, v, h2, h3, h4⟩ | ⟨h1, v, h2, h3, h4⟩
 ·exact .inl ⟨h1, v, Box.alloc h2 o, h3.kept (World.grownBy_alloc w o none) (Classical.em _), h4⟩
 ·exact .inr ⟨h1, v, Box.alloc h2 o, h3.kept (World.grownBy_alloc w o none) (Classical.em _), h4⟩
theorem Box.others {w w' : World} {g b : Nat} {t : TypeId} {cs : Array Value} (h : Box w g t cs) (hk : Lib.OthersKept 5 (some b) w w') (hb : g ≠ b) (ht : t ≠ 5) : Box w' g t cs :=
 hk g _ h (fun e => hb (by injection e)) (fun c fz e => ht (by injection e))
end Go.Proofs.YtepaeliamhjgiaaGreatDoor
namespace Go.Proofs.YtepaeliamhjgiaaGreatDoor
open Go.RowKit Go.Maps
theorem runF_le (F : Nat -> Option Sh) : ∀ k q, (runF F k q).length <= k
 |0, q => Nat.le_refl _
 |k + 1, q => by
  unfold runF
  cases F q with
  |none => exact Nat.zero_le _
  |some s => simp only [List.length_cons]; have := runF_le F k (q + 1); omega
theorem runF_end (F : Nat -> Option Sh) : ∀ k q, (runF F k q).length < k -> F (q + (runF F k q).length) = none
 |0, q, h => by simp [runF] at h
 |k + 1, q, h => by
  unfold runF at h ⊢
  cases hq : F q with
  |none => simpa using hq
  |some s =>
   rw [hq] at h
   dsimp only at h ⊢
   rw [List.length_cons] at h ⊢
   have := runF_end F k (q + 1) (by omega)
   rwa [show q + ((runF F k (q + 1)).length + 1) = q + 1 + (runF F k (q + 1)).length by omega]
theorem runF_log (V : Nat -> List UInt8) (n f : Nat) (hn : 0 < n) : (runF (sheetF V n) (n + 1) f).length <= n := by
 have h1 := runF_le (sheetF V n) (n + 1) f
 rcases Nat.lt_or_ge (runF (sheetF V n) (n + 1) f).length (n + 1) with hlt | hge
 ·omega
 ·exfalso
  have g0 : 0 < (runF (sheetF V n) (n + 1) f).length := by omega
  have g1 : n < (runF (sheetF V n) (n + 1) f).length := by omega
  have a0 := sheetF_q (runF_get _ _ _ _ _ (List.getElem?_eq_getElem g0))
  have a1 := sheetF_q (runF_get _ _ _ _ _ (List.getElem?_eq_getElem g1))
  generalize (runF (sheetF V n) (n + 1) f)[0] = s0 at a0
  generalize (runF (sheetF V n) (n + 1) f)[n] = s1 at a1
  rw [Nat.add_zero] at a0
  rw [Nat.add_mod_right] at a1
  obtain ⟨e1, e2⟩ := a1
  rw [a0.2] at e2
  injection e2 with e2
  rw [<- e2, a0.1] at e1
  omega
section
variable {w : World} {g N : Nat} {F : Nat -> Option Sh}
theorem wpList_look_none {ops : Array Oper} {rest : List Oper} {o : Oper} {a : Act} {Q : Exit -> Act -> World -> Prop} (hg : o.guard = none) (m x : Operand)
  (hop : o.op = Op.lookup 125 m x true) (hm : a.eval m = .map (some g)) (h : Fm w g N F) (q : Nat) (hq : q < 18446744073709551616) (hx : a.eval x = .int .u64 q) (hF : F q = none)
  (hn : ∀ s : Sh, wpList Tryz.prog ops Q rest (a.put o.dst (.tuple #[.agg #[.int .u64 s.q, .bool s.last, .string ⟨s.t.toArray⟩], .bool false])) w) : wpList Tryz.prog ops Q (o :: rest) a w :=
 wpList_lookSh hg m x hop hm h q hq hx (fun _ => hn) (fun s hs => by rw [hF] at hs; cases hs)
theorem wpList_look_some {ops : Array Oper} {rest : List Oper} {o : Oper} {a : Act} {Q : Exit -> Act -> World -> Prop} (hg : o.guard = none) (m x : Operand)
  (hop : o.op = Op.lookup 125 m x true) (hm : a.eval m = .map (some g)) (h : Fm w g N F) (q : Nat) (hq : q < 18446744073709551616) (hx : a.eval x = .int .u64 q) (s : Sh) (hF : F q = some s)
  (hs : wpList Tryz.prog ops Q rest (a.put o.dst (.tuple #[.agg #[.int .u64 s.q, .bool s.last, .string ⟨s.t.toArray⟩], .bool true])) w) : wpList Tryz.prog ops Q (o :: rest) a w :=
 wpList_lookSh hg m x hop hm h q hq hx (fun hn => by rw [hF] at hn; cases hn) (fun s' hs' => by rw [hF] at hs'; cases hs'; exact hs)
end
theorem wrap_small {q : Nat} (h : q + 1 < 18446744073709551616) : IntKind.u64.wrap ((q : Int) + 1) = ((q + 1 : Nat) : Int) := by rw [wrap_next, Nat.mod_eq_of_lt h]
structure OutR (w : World) (ss : List Sh) (total : List (List UInt8)) (i : Nat) (acc : List (List UInt8)) (v : Value) (wx : World) : Prop where
 sum : acc ++ parse [] (ss.drop i) = total
 few : acc.length <= i
 row : wx.ownsRow w.heap.size 9 1 v acc.length (strs acc)
 kp : Kp (fun _ => False) w wx
structure InR (w w1 : World) (ss : List Sh) (total : List (List UInt8)) (j : Nat) (acc : List (List UInt8)) (t : List UInt8) (B : Nat) (v : Value) (wx : World) : Prop where
 sum : acc ++ parse t (ss.drop j) = total
 row : wx.ownsRow w.heap.size 9 1 v acc.length (strs acc)
 kp : Kp (fun _ => False) w wx
 old : ∀ k, v.ownBlock = some k -> k < B
 bd : Lib.IsBuilderF 178 5 B B (Lib.byteCells t) wx
 few : t.length <= 497 * j
 size : B < wx.heap.size
theorem drop_cons {ss : List Sh} {j : Nat} (h : j < ss.length) : ss.drop j = ss[j] :: ss.drop (j + 1) := List.drop_eq_getElem_cons h
theorem texts_any {w : World} {g N : Nat} {V : Nat -> List UInt8} {n : Nat} (h : Fm w g N (sheetF V n)) (hn0 : 0 < n) (hn : n <= 512) (f : Nat) (hf : f + 513 < 18446744073709551616) :
  Calls Tryz.prog 88 #[.map (some g), .int .u64 f] w fun e w' => ∃ v, e = .returned v /\ w'.ownsRow w.heap.size 9 1 v (textsF V n f).length (strs (textsF V n f)) /\ Kp (fun _ => False) w w' := by
 obtain ⟨i0, hi0, hz0, hz1, hz2⟩ := strInf
 obtain ⟨ss, hss⟩ : ∃ ss, runF (sheetF V n) (n + 1) f = ss := ⟨_, rfl⟩
 have hlen : ss.length <= n := by rw [<- hss]; exact runF_log V n f hn0
 have hget : ∀ i s, ss[i]? = some s -> sheetF V n (f + i) = some s := fun i s hi => runF_get _ _ _ _ _ (by rw [hss]; exact hi)
 have hend : sheetF V n (f + ss.length) = none := by
  have := runF_end (sheetF V n) (n + 1) f (by rw [hss]; omega)
  rwa [hss] at this
 obtain ⟨total, htot⟩ : ∃ t, textsF V n f = t := ⟨_, rfl⟩
 have hpt : parse [] ss = total := by rw [<- htot, textsF, hss]
 rw [htot]
 have HGET := hHd hget
 have HEND := hHd hend
 have HFM := hHd h
 have HPT := hHd hpt
 have HFF := hHd hf
 clear hss hget hend htot hpt h hf
 go_enter Tryz.func88, Tryz.ntmps88
 go_wp2_with fail
 go_step3
 go_wp2_with fail
 go_step3
 go_wp2_with fail
 go_loopg [1, 5] ss.length (fun gh s1 s5 wx => ∃ (i : Nat) (acc : List (List UInt8)), i + gh = ss.length /\ s1 = .int .u64 ((f + i : Nat) : Int) /\ OutR w ss total i acc s5 wx)
 case atStart => exact ⟨0, [], by omega, rfl, ⟨by rw [List.drop_zero]; exact HPT.out, Nat.le_refl _, World.ownsRow_nil _ _ _ _, Kp.refl _ _⟩⟩
 case round =>
  obtain ⟨i, acc, hig, rfl, hout⟩ := hrel
  have HO := hHd hout
  clear hout
  have B1 := hHd (builderF_new wr)
  have K1 := hHd (HO.out.kp.alloc (.cells #[.pointer none, .slice none 0 0] 178))
  have R1 := hHd (HO.out.row.alloc (.cells #[.pointer none, .slice none 0 0] 178))
  have hold : ∀ k, u5.ownBlock = some k -> k < wr.heap.size := fun k e => (HO.out.row.lt k e).2
  have HOLD := hHd hold
  have hsz : wr.heap.size < (wr.alloc (.cells #[.pointer none, .slice none 0 0] 178)).heap.size := by simp
  have HIG := hHd hig
  have hwb : w.heap.size <= wr.heap.size := HO.out.kp.size
  clear hold hig
  go_wp2_with fail
  generalize wr.alloc (.cells #[.pointer none, .slice none 0 0] 178) = w1 at *
  generalize hB : wr.heap.size = B at *
  have HSZ := hHd hsz
  clear hB hsz
  go_loopg [1, 5] (ss.length - i) (fun gi s1 s5 wx => ∃ (j : Nat) (t : List UInt8), j + gi = ss.length /\ i <= j /\ s1 = .int .u64 ((f + j : Nat) : Int) /\ s5 = u5 /\ InR w w1 ss total j acc t B u5 wx)
  case atStart => exact ⟨i, [], by have := HIG.out; omega, Nat.le_refl _, rfl, rfl, HO.out.sum, R1.out, K1.out, HOLD.out, B1.out, Nat.zero_le _, HSZ.out⟩
  case round =>
   obtain ⟨j, t, hjg, hij, rfl, rfl, hin⟩ := hrel
   rename World => wx
   have HI := hHd hin
   clear hin
   have HJG := hHd hjg
   obtain ⟨q, hq⟩ : ∃ q, f + j = q := ⟨_, rfl⟩
   rw [hq]
   have HQ := hHd hq
   have hq64 : q < 18446744073709551616 := by have := HFF.out; omega
   have HQ64 := hHd hq64
   have HFX := hHd (HFM.out.kp HI.out.kp (fun e => e))
   clear hjg hq hq64
   by_cases hlt : j < ss.length
   ·obtain ⟨s, hs⟩ : ∃ s, ss[j]? = some s := ⟨_, List.getElem?_eq_getElem hlt⟩
    have HF := hHd (show sheetF V n q = some s by rw [<- HQ.out]; exact HGET.out j s hs)
    have HDR := hHd (show ss.drop j = s :: ss.drop (j + 1) by
     have e := drop_cons hlt
     rw [List.getElem?_eq_getElem hlt] at hs
     injection hs with hs
     rw [hs] at e
     exact e)
    have hst := (takeS_lt (sheetF_q HF.out).2).2
    have hw1 : IntKind.u64.wrap ((q : Int) + 1) = ((q + 1 : Nat) : Int) := wrap_small (by have := HFF.out; have := HQ.out; omega)
    have hssz : (⟨s.t.toArray⟩ : ByteArray).size = s.t.length := note_size s.t
    have HSS := hHd hssz
    clear hs hssz
    rcases hl : s.last with _ | _
    ·have HSUM := hHd (show acc ++ parse (t ++ s.t) (ss.drop (j + 1)) = total by
      have := HI.out.sum
      rw [HDR.out] at this
      simpa [parse, hl] using this)
     have hb1 := builderF_alloc HI.out.bd (.cells #[.int .u64 s.q, .bool false, .string ⟨s.t.toArray⟩] 172)
     have HB1 := hHd hb1
     clear hb1
     go_wp2_with (first | (refine wpList_look_some rfl (.tmp 10) (.tmp 11) rfl (g := g) (N := N) rfl HFX.out q HQ64.out rfl s HF.out ?_) | fail)
     have hb1 := HB1.out
     refine (Tryz.Builder_WriteString_k B B _ ⟨s.t.toArray⟩ _ hb1 (by
      rw [Lib.byteCells_length, HSS.out]
      have := HI.out.few
      omega) (by have := HI.out.size; simp; omega)).mono ?_
     rintro e w2 ⟨rfl, hb2, hbl, hoth⟩
     have c1 := ((Box.new wx 172 #[.int .u64 s.q, .bool false, .string ⟨s.t.toArray⟩]).others hoth (by have := HI.out.size; omega) (by decide)).cell 1
     simp at c1
     clear hoth
     have hcat : Lib.byteCells t ++ Lib.strCells ⟨s.t.toArray⟩ = Lib.byteCells (t ++ s.t) := by rw [Lib.strCells_eq, <- Lib.byteCells_append]
     rw [hcat] at hb2
     have BD2 := hHd hb2
     have hl2 := hb2.lt
     have HL2 := hHd hl2
     have KB := hHd (((Kp.refl (fun k => B <= k) wx).alloc (.cells #[.int .u64 s.q, .bool false, .string ⟨s.t.toArray⟩] 172)).trans (Kp.of_below hbl))
     have K2 := hHd (HI.out.kp.trans_new KB.out (fun b e => .inl (Nat.le_trans hwb e)))
     have R2 := hHd (down_kp HI.out.row KB.out (fun k e => by have := HI.out.old k e; omega))
     clear hb1 hb2 hbl hcat hl2
     clear hl
     go_wp2_with fail
     clear c1
     go_roundg (ss.length - (j + 1))
     case measure => have := HJG.out; omega
     case rel =>
      exact ⟨j + 1, t ++ s.t, by omega, by omega, by rw [<- HQ.out]; first | rfl | congr 1, rfl, HSUM.out, R2.out, K2.out, HI.out.old, .inr BD2.out, by rw [List.length_append]; have := HI.out.few; omega, HL2.out⟩
    ·have HSUM := hHd (show (acc ++ [t ++ s.t]) ++ parse [] (ss.drop (j + 1)) = total by
      have := HI.out.sum
      rw [HDR.out] at this
      simpa [parse, hl] using this)
     have hb1 := builderF_alloc HI.out.bd (.cells #[.int .u64 s.q, .bool true, .string ⟨s.t.toArray⟩] 172)
     have HB1 := hHd hb1
     clear hb1
     go_wp2_with (first | (refine wpList_look_some rfl (.tmp 10) (.tmp 11) rfl (g := g) (N := N) rfl HFX.out q HQ64.out rfl s HF.out ?_) | fail)
     have hb1 := HB1.out
     refine (Tryz.Builder_WriteString_k B B _ ⟨s.t.toArray⟩ _ hb1 (by
      rw [Lib.byteCells_length, HSS.out]
      have := HI.out.few
      omega) (by have := HI.out.size; simp; omega)).mono ?_
     rintro e w2 ⟨rfl, hb2, hbl, hoth⟩
     have c1 := ((Box.new wx 172 #[.int .u64 s.q, .bool true, .string ⟨s.t.toArray⟩]).others hoth (by have := HI.out.size; omega) (by decide)).cell 1
     simp at c1
     clear hoth
     have hcat : Lib.byteCells t ++ Lib.strCells ⟨s.t.toArray⟩ = Lib.byteCells (t ++ s.t) := by rw [Lib.strCells_eq, <- Lib.byteCells_append]
     rw [hcat] at hb2
     have BD2 := hHd hb2
     have hl2 := hb2.lt
     have HL2 := hHd hl2
     have KB := hHd (((Kp.refl (fun k => B <= k) wx).alloc (.cells #[.int .u64 s.q, .bool true, .string ⟨s.t.toArray⟩] 172)).trans (Kp.of_below hbl))
     have K2 := hHd (HI.out.kp.trans_new KB.out (fun b e => .inl (Nat.le_trans hwb e)))
     have R2 := hHd (down_kp HI.out.row KB.out (fun k e => by have := HI.out.old k e; omega))
     clear hb1 hb2 hbl hcat hl2
     clear hl
     go_wp2_with fail
     refine (Tryz.Builder_String_any_k B B (t ++ s.t) w2 (.inr BD2.out) (by have := HL2.out; omega)).mono ?_
     rintro e w3 ⟨rfl, _, hbl, _⟩
     clear c1
     have KB3 := hHd (Kp.of_below hbl)
     have K3 := hHd (K2.out.trans_new KB3.out (fun b e => .inl (Nat.le_trans hwb e)))
     have R3 := hHd (down_kp R2.out KB3.out (fun k e => by have := HI.out.old k e; omega))
     have hw3 := hHd K3.out.size
     have HFEW := hHd (show acc.length <= 512 by have := HO.out.few; omega)
     clear hbl
     go_wp2_with (at_builtin; go_must (refine wpList_append_own _ rfl (.tmp 24) (.tmp 26) 36 rfl w.heap.size 9 i0 (.string ⟨#[]⟩) 1 16 Tryz.underlying36 hi0 hz0 hz1 hz2 rfl (by decide) u5 acc.length (strs acc) rfl (R3.out.alloc _) ⟨w3.heap.size, 0, none⟩ 1 1 [.string ⟨(t ++ s.t).toArray⟩] rfl rfl (cell_one_new _ _ _) (by intro u hu; simp only [List.mem_cons, List.not_mem_nil, or_false] at hu; subst hu; rfl) (by have := HFEW.out; unfold maxLen; omega) (by have := HFEW.out; omega) (by have := hw3.out; simp; omega) ?_; intro v' w4 hown4 hgr4 _; have R4 := hHd hown4; have G4 := hHd hgr4; clear hown4 hgr4))
     go_roundg (ss.length - (j + 1))
     case measure => have := HIG.out; omega
     case rel =>
      refine ⟨j + 1, acc ++ [t ++ s.t], by omega, by rw [<- HQ.out]; first | rfl | congr 1, HSUM.out, by rw [List.length_append]; have := HO.out.few; simp; omega, ?_, ?_⟩
      ·rw [List.length_append, strs_snoc]
       exact R4.out
      ·exact (K3.out.alloc _).grown G4.out (fun k e => .inl ((R3.out.lt k e).1))
   ·have hjl : j = ss.length := by have := HJG.out; omega
    have HF := hHd (show sheetF V n q = none by rw [<- HQ.out, hjl]; exact HEND.out)
    have HT := hHd (show acc = total by
     have := HI.out.sum
     rw [hjl, List.drop_length] at this
     simpa [parse] using this)
    clear hjl
    go_wp2_with (first | (refine wpList_look_none rfl (.tmp 10) (.tmp 11) rfl (g := g) (N := N) rfl HFX.out q HQ64.out rfl HF.out ?_; intro s0) | fail)
    rw [Exit.noGoto_ret]
    go_ret
    rw [<- HT.out]
    exact ⟨_, rfl, HI.out.row.alloc _, HI.out.kp.alloc _⟩
end Go.Proofs.YtepaeliamhjgiaaGreatDoor
