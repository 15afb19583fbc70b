/- What sheet.Cut answers: the sheets of a text. Condition: at most 2^32 bytes. -/
import Derived.Test.YtfcljcikajaedaaGreatDoorMg23
import Derived.Test.YtfcljcikajaedaaGreatDoorMg24
import Derived.Maps.AppendAt
import Derived.Deep.DeepMust
import Derived.Test.YtfcljcikajaedaaGreatDoorMg1
namespace Go.Proofs.YtfcljcikajaedaaGreatDoor
open Go.RowKit Go.Shelf
attribute [local go_sem] Oper.semAt_some

/-- Sheets, three cells each. -/
def rowS (l : List Sh) : List Value := (l.map fun s => (cells3 s).toList).flatten
theorem rowS_length (l : List Sh) : (rowS l).length = l.length * 3 := by
  induction l with
  | nil => rfl
  | cons s l ih =>
    show ((cells3 s).toList ++ rowS l).length = _
    rw [List.length_append, ih, List.length_cons]
    simp [cells3]
    omega
theorem rowS_snoc (l : List Sh) (s : Sh) : rowS (l ++ [s]) = rowS l ++ (cells3 s).toList := by simp [rowS]
theorem info_row : (Tryz.prog.info? 120).map (fun i => (i.zero, i.size, i.bytes)) = some (some (.agg #[.int .u64 0, .bool false, .string ⟨#[]⟩]), 3, 32) := by kernel_rfl
theorem info3 {P : Program} {e : TypeId} {z : Value} {n b : Nat} (h : (P.info? e).map (fun i => (i.zero, i.size, i.bytes)) = some (some z, n, b)) : ∃ i0, P.info? e = some i0 ∧ i0.zero = some z ∧ i0.size = n ∧ i0.bytes = b := by
  rcases hi : P.info? e with _ | i0
  · rw [hi] at h; cases h
  · rw [hi] at h
    simp only [Option.map_some, Option.some.injEq, Prod.mk.injEq] at h
    exact ⟨i0, rfl, h.1, h.2.1, h.2.2⟩

theorem own_shape3 {w : World} {base : Nat} {e : TypeId} {size n : Nat} {v : Value} {xs : List Value} (h : w.ownsRow base e size v n xs) : ∃ A c, v = .slice A n c := by
  rcases h.2 with ⟨rfl, rfl⟩ | ⟨g, cap, _, rfl, _⟩
  · exact ⟨_, _, rfl⟩
  · exact ⟨_, _, rfl⟩
theorem kpK_b {w : World} {S : Nat → Prop} (hS : ∀ k, w.heap.size ≤ k → S k) (W : World) (l : Nat) (o o' : Obj) (hl : w.heap.size ≤ l) (_ : W.heap[l]? = some o) (_ : o.isCells = false) (_ : o.isWalk = false) : Kp S W (W.putObj l o') :=
  (Kp.refl S W).grown (grownBy_putObj' W l o') (fun k e => by cases e; exact .inr (hS _ hl))

/-- What the loop keeps: the row of sheets so far, in its box; the iterator's two boxes; all that was there. -/
structure CutI (w : World) (gl q : Nat) (tx : List UInt8) (pre : List Sh) (W : World) : Prop where
  row : ∃ v, Boxed W gl 134 v ∧ W.ownsRow w.heap.size 120 3 v pre.length (rowS pre)
  kp : Kp (fun _ => False) w W
  bq : Box W (gl + 1) 35 #[.int .u64 q]
  bt : Box W (gl + 1 + 1) 9 #[.string ⟨tx.toArray⟩]
theorem Box.off {W W' : World} {g : Nat} {t : TypeId} {cs : Array Value} {row : Option Nat} (h : Box W g t cs) (hg : W.grownBy W' row) (hr : ∀ r, row = some r → ∃ o : Obj, W.heap[r]? = some o ∧ o.isCells = false) : Box W' g t cs :=
  h.grown hg fun e => by
    obtain ⟨o, ho, hc⟩ := hr g e.symm
    unfold Box at h
    rw [h] at ho
    cases ho
    cases hc
theorem own_off {W W' : World} {base : Nat} {e : TypeId} {size n : Nat} {v : Value} {xs : List Value} {row : Option Nat} (h : W.ownsRow base e size v n xs) (hg : W.grownBy W' row) (hr : ∀ r, row = some r → ∃ o : Obj, W.heap[r]? = some o ∧ o.isCells = false) : W'.ownsRow base e size v n xs := by
  refine ⟨h.1, ?_⟩
  rcases h.2 with h2 | ⟨g, cap, cur, rfl, hb, hh, r⟩
  · exact .inl h2
  · have hb2 : Box W g e cur := hh
    exact .inr ⟨g, cap, cur, rfl, hb, hb2.off hg hr, r⟩
theorem CutI.off {w : World} {gl q : Nat} {tx : List UInt8} {pre : List Sh} {W W' : World} {row : Option Nat} (h : CutI w gl q tx pre W) {B : Nat} (hB : w.heap.size ≤ B) (hg : W.grownBy W' row) (hr : ∀ r, row = some r → B ≤ r ∧ ∃ o : Obj, W.heap[r]? = some o ∧ o.isCells = false) : CutI w gl q tx pre W' := by
  have hr' := fun r e => (hr r e).2
  obtain ⟨v, hv, ho⟩ := h.row
  have hv' : Box W gl 134 #[v] := hv
  exact ⟨⟨v, hv'.off hg hr', own_off ho hg hr'⟩, h.kp.grown hg (fun k e => .inl (Nat.le_trans hB (hr k e).1)), h.bq.off hg hr', h.bt.off hg hr'⟩
theorem CutI.alloc {w : World} {gl q : Nat} {tx : List UInt8} {pre : List Sh} {W : World} (h : CutI w gl q tx pre W) (o : Obj) : CutI w gl q tx pre (W.alloc o) := by
  obtain ⟨v, hv, ho⟩ := h.row
  exact ⟨⟨v, hv.alloc o, ho.alloc o⟩, h.kp.alloc o, h.bq.alloc o, h.bt.alloc o⟩

set_option maxRecDepth 100000 in
set_option maxHeartbeats 4000000 in
theorem cut_in (q : Nat) (tx : List UInt8) (w : World) (hq : q < 18446744073709551616) (hm : tx.length ≤ 4294967296) :
    CallsIn Fence.wide 3 Tryz.prog 73 #[.int .u64 q, .string ⟨tx.toArray⟩] w fun e w' => ∃ v, e = .returned v ∧ w'.ownsRow w.heap.size 120 3 v (need tx.length) (rowS (cutL q tx)) ∧ Kp (fun _ => False) w w' := by
  have hF : ∀ f, Fence.wide.fn f := fun _ => trivial
  have hro : Fence.wide.round = none := rfl
  obtain ⟨i0, hi, hz0, hz1, hz2⟩ := info3 info_row
  obtain ⟨m, hnm⟩ : ∃ m, need tx.length = m := ⟨_, rfl⟩
  have hml : m ≤ 4294967296 := by rw [← hnm]; unfold need; omega
  have hnd := need_any tx.length w (by omega)
  rw [hnm] at hnd
  refine callsIn_of_wp_marks Tryz.func73 rfl (hF _) ?_ hro
  simp only [Tryz.ntmps73, List.size_toArray, List.length_cons, List.length_nil, Nat.reduceAdd, Nat.reduceSub, Array.replicate_succ, Array.replicate_zero, List.push_toArray, List.append_toArray, List.nil_append, List.cons_append]
  gi_wp2_with (first | (gi_at_call 45; refine (callsIn_wide.2 hnd).mono ?_; clear hnd; rintro e w' ⟨rfl, rfl⟩) | (gi_at_make; refine wpListIn_make_own _ rfl (.const (.int .i64 0)) (.tmp 9) 134 rfl w.heap.size 120 i0 _ 3 Tryz.underlying134 hi hz0 hz1 .i64 .i64 (m : Int) m rfl rfl rfl (by rw [hz2]; omega) (by unfold maxLen; omega) (Nat.le_refl _) ?_; intro w1 hown hgrow) | (gi_at_call 105; refine (sheets_in Fence.wide (3 - 1) (hF _) hro _ _ _).mono ?_; rintro e w' ⟨rfl, rfl⟩))
  have hsz1 : w.heap.size ≤ w1.heap.size := hgrow.size
  obtain ⟨gl, hgl⟩ : ∃ gl, w1.heap.size = gl := ⟨_, rfl⟩
  have hI0 : CutI w w1.heap.size q tx [] (((w1.alloc (.cells #[.slice (some ⟨w.heap.size, 0, none⟩) 0 m] 134)).alloc (.cells #[.int .u64 q] 35)).alloc (.cells #[.string ⟨tx.toArray⟩] 9)) := by
    have b2 := (Box.new (w1.alloc (.cells #[.slice (some ⟨w.heap.size, 0, none⟩) 0 m] 134)) 35 #[.int .u64 q]).alloc (.cells #[.string ⟨tx.toArray⟩] 9)
    have b3 := Box.new ((w1.alloc (.cells #[.slice (some ⟨w.heap.size, 0, none⟩) 0 m] 134)).alloc (.cells #[.int .u64 q] 35)) 9 #[.string ⟨tx.toArray⟩]
    simp only [World.size_alloc] at b2 b3
    exact ⟨⟨_, ((Boxed.new w1 _ _).alloc _).alloc _, ((hown.alloc _).alloc _).alloc _⟩, ((((Kp.refl _ w).grown hgrow (fun k e => by cases e)).alloc _).alloc _).alloc _, b2, b3⟩
  have hsz : (((w1.alloc (.cells #[.slice (some ⟨w.heap.size, 0, none⟩) 0 m] 134)).alloc (.cells #[.int .u64 q] 35)).alloc (.cells #[.string ⟨tx.toArray⟩] 9)).heap.size = w1.heap.size + 3 := by simp
  generalize ((w1.alloc (.cells #[.slice (some ⟨w.heap.size, 0, none⟩) 0 m] 134)).alloc (.cells #[.int .u64 q] 35)).alloc (.cells #[.string ⟨tx.toArray⟩] 9) = W0 at *
  rw [hgl] at hI0 hsz hsz1 ⊢
  refine wpIn_rangeFunc_ownH hro (by omega) (gf := 130) (lb := #[.pointer (some ⟨gl + 1, 0, none⟩), .pointer (some ⟨gl + 1 + 1, 0, none⟩)]) rfl (hF _) (enters_of Tryz.func130 (by kernel_rfl) rfl)
    (sheets_stops Fence.wide (3 - 1) (hF _) hro (by omega) (gl + 1) (gl + 1 + 1) q m tx (by omega) hnm hq W0 (by omega) (by omega) (hI0.bq.cell 0) (hI0.bt.cell 0)) (fun h k => h.trans k) (kpK_b (fun k hk => by omega)) (Below.refl _ _) (fun _ => rfl)
    (fun (pre : List (Fin m)) W => CutI w gl q tx (pre.map fun x => shAt q tx x.1) W)
    (fun _ _ _ => False)
    (fun s A B row hs hg hr => show CutI w gl q tx (s.map fun x => shAt q tx x.1) B from CutI.off hs (by omega) hg hr)
    (fun _ _ _ _ _ hs _ _ => hs)
    hI0
    (fun x a' W => ∃ Bx, gl + 1 + 1 < Bx ∧ Box W Bx 120 (cells3 (shAt q tx x.1)) ∧ a' = { tmps := #[.int .u64 q, .string ⟨tx.toArray⟩, undef, undef, .slice none 0 0, .pointer (some ⟨gl, 0, none⟩), .pointer (some ⟨Bx, 0, none⟩), .string ⟨tx.toArray⟩, .int .i64 tx.length, .int .i64 m, .slice (some ⟨w.heap.size, 0, none⟩) 0 m, .int .u64 q, .string ⟨tx.toArray⟩, .func (.func 130) #[] #[.pointer (some ⟨gl + 1, 0, none⟩), .pointer (some ⟨gl + 1 + 1, 0, none⟩)], .agg (cells3 (shAt q tx x.1)), undef, undef, undef, undef, undef], defers := [] })
    (fun x a' _ X Y row hs hg hr => by obtain ⟨Bx, h1, h2, h3⟩ := hs; exact ⟨Bx, h1, h2.off hg (fun r e => (hr r e).2), h3⟩)
    ?assign ?body ?done ?stop
  case stop =>
    rintro D c pre W _ _ h _
    exact h.elim
  case assign =>
    rintro l pre x W K hi hK
    have hlt := hi.bt.lt
    have hn := Box.new W 120 (cells3 (shAt q tx x.1))
    have hc : ∃ a b c, cells3 (shAt q tx x.1) = #[.int .u64 a, .bool b, .string c] := ⟨_, _, _, rfl⟩
    have hA := hi.alloc (.cells (cells3 (shAt q tx x.1)) 120)
    have hK' := hK _ _ ((KeepsOthers.alloc W (.cells (cells3 (shAt q tx x.1)) 120)).from _) ((Kp.refl _ W).alloc (.cells (cells3 (shAt q tx x.1)) 120)) hA ⟨W.heap.size, by omega, hn, rfl⟩
    have HK := Lib.hid hK'
    clear hK hK' hA hn
    obtain ⟨a, b, c, hc⟩ := hc
    rw [hc] at HK ⊢
    gi_wp2
    exact HK.out
  case body =>
    rintro l pre x a' W hl ⟨_, _⟩ hI ⟨Bx, hBx, bX, rfl⟩ hlt
    obtain ⟨v, hv, hrow⟩ := hI.row
    have hc5 := hv.cell
    have hpl : pre.length < m := hlt
    obtain ⟨a, b, c, hc⟩ : ∃ a b c, cells3 (shAt q tx x.1) = #[.int .u64 a, .bool b, .string c] := ⟨_, _, _, rfl⟩
    have HC := Lib.hid hc
    rw [hc] at bX
    have hx0 := bX.cell 0
    have hx1 := bX.cell 1
    have hx2 := bX.cell 2
    simp at hx0 hx1 hx2
    have HI := Lib.hid hI
    have HV := Lib.hid hv
    have HRow := Lib.hid hrow
    clear hc hI hv hrow bX
    try rw [HC.out]
    obtain ⟨ps, hps⟩ : ∃ ps, (pre.map fun (x : Fin m) => shAt q tx x.1) = ps := ⟨_, rfl⟩
    have hpsl : ps.length < m := by rw [← hps, List.length_map]; exact hpl
    rw [hps] at HI HRow
    have hWs := HI.out.kp.size
    have hn3 : ((cells3 (shAt q tx x.1)).toList).length = 1 * 3 := rfl
    have hnew : ∀ (j : Nat) (u : Value), (cells3 (shAt q tx x.1)).toList[j]? = some u → (W.alloc (.cells #[.int .u64 a, .bool b, .string c] 120)).cell? ((⟨W.heap.size, 0, none⟩ : Addr).add j) = some u := by
      intro j u hu
      have e : (⟨W.heap.size, 0, none⟩ : Addr).add j = ⟨W.heap.size, j, none⟩ := by unfold Addr.add; split <;> simp_all
      rw [e, (Box.new W 120 _).cell]
      rw [HC.out] at hu
      simpa using hu
    have hone : ∀ u ∈ (cells3 (shAt q tx x.1)).toList, u.oneCell' = true := by
      intro u hu
      rw [HC.out] at hu
      simp only [List.mem_cons, List.not_mem_nil, or_false] at hu
      rcases hu with rfl | rfl | rfl <;> rfl
    gi_wp2_with (gi_at_builtin; go_must (refine wpListIn_append_own _ rfl (.tmp 15) (.tmp 17) 134 rfl w.heap.size 120 i0 _ 3 32 Tryz.underlying134 hi hz0 hz1 hz2 rfl (by decide) v ps.length _ rfl (HRow.out.alloc _) ⟨W.heap.size, 0, none⟩ 1 1 (cells3 (shAt q tx x.1)).toList rfl hn3 hnew hone (by unfold maxLen; omega) (by omega) (by simp; omega) ?_; intro v' w2 hown2 hgrow2 _; obtain ⟨A', c', rfl⟩ := own_shape3 hown2; obtain ⟨hv1, hv2, hr2, hk2, hb2⟩ := HV.out.appended (by decide) HRow.out hWs (by omega) hown2 hgrow2; have hcl := hv1.cell; have hcf := hv1.frozen; have HK2 := Lib.hid hk2; have HV2 := Lib.hid hv2; have HR2 := Lib.hid hr2; have HG2 := Lib.hid hgrow2; clear hv1 hv2 hr2 hk2 hb2 hown2 hgrow2))
    have hne1 : v.ownBlock ≠ some (gl + 1) := HI.out.bq.own_ne HRow.out (by decide)
    have hne2 : v.ownBlock ≠ some (gl + 1 + 1) := HI.out.bt.own_ne HRow.out (by decide)
    have hkp : Kp (fun k => k ≠ gl + 1 ∧ k ≠ gl + 1 + 1) W (w2.setCell ⟨gl, 0, none⟩ (.slice A' (ps.length + 1) c')) :=
      (((Kp.refl _ W).alloc (.cells #[.int .u64 a, .bool b, .string c] 120)).grown HG2.out (fun k e => .inr ⟨fun e2 => hne1 (by rw [e, e2]), fun e2 => hne2 (by rw [e, e2])⟩)).setCell (.inr ⟨by simp, by show gl ≠ gl + 1 + 1; omega⟩) _
    have hown : ∀ k, v.ownBlock = some k → w.heap.size ≤ k := fun k e => (HRow.out.lt k e).1
    have hkw : Kp (fun _ => False) w (w2.setCell ⟨gl, 0, none⟩ (.slice A' (ps.length + 1) c')) :=
      ((HI.out.kp.alloc (.cells #[.int .u64 a, .bool b, .string c] 120)).grown HG2.out (fun k e => .inl (hown k e))).setCell (.inl (by show w.heap.size ≤ gl; omega)) _
    refine ⟨HK2.out.from _, hkp, ?_⟩
    show CutI w gl q tx ((pre ++ [x]).map fun (x : Fin m) => shAt q tx x.1) _
    rw [List.map_append, hps]
    refine ⟨⟨_, HV2.out, ?_⟩, hkw, HI.out.bq.kp hkp (fun h => h.1 rfl), HI.out.bt.kp hkp (fun h => h.2 rfl)⟩
    rw [List.length_append]
    show (w2.setCell ⟨gl, 0, none⟩ (.slice A' (ps.length + 1) c')).ownsRow w.heap.size 120 3 _ (ps.length + 1) (rowS (ps ++ [shAt q tx x.1]))
    rw [rowS_snoc]
    exact HR2.out
  case done =>
    rintro D xs W hD rfl hI hdef
    obtain ⟨v, hv, hrow⟩ := hI.row
    have hc5 := hv.cell
    have hfin : (List.finRange m).map (fun (x : Fin m) => shAt q tx x.1) = cutL q tx := by
      rw [cutL, hnm]
      apply List.ext_getElem
      · simp
      · intro i h1 h2
        simp
    rw [hfin] at hrow
    have HRow := Lib.hid hrow
    have HI := Lib.hid hI.kp
    have HV := Lib.hid hv
    clear hfin hrow hI hv
    gi_wp2
    refine ⟨by simp, .inl ⟨_, _, rfl, run_takeDeferred hdef, ?_⟩⟩
    have hrow2 := own_off HRow.out (grownBy_putObj' W D (.deferred none)) (fun r e => by cases e; exact ⟨_, hdef, rfl⟩)
    have hkp2 := HI.out.grown (grownBy_putObj' W D (.deferred none)) (fun k e => .inl (by cases e; omega))
    rw [cutL_length] at hrow2
    exact ⟨_, results_tmp rfl _ _ _, v, rfl, hrow2, hkp2⟩

theorem cut_any (q : Nat) (tx : List UInt8) (w : World) (hq : q < 18446744073709551616) (hm : tx.length ≤ 4294967296) :
    Calls Tryz.prog 73 #[.int .u64 q, .string ⟨tx.toArray⟩] w fun e w' => ∃ v, e = .returned v ∧ w'.ownsRow w.heap.size 120 3 v (need tx.length) (rowS (cutL q tx)) ∧ Kp (fun _ => False) w w' :=
  callsIn_wide.1 (cut_in q tx w hq hm)
end Go.Proofs.YtfcljcikajaedaaGreatDoor
