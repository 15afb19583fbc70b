/- What record.Walk answers of bytes that are those of records: these records. Conditions: that; at most 2^40 bytes. -/
import Derived.RangeFuncNested
import Derived.TacticsInMore
import Derived.Deep.DeepMust
import Derived.Shelf.Abstract
import Derived.Test.YtcgfnfejacgaeaaDoorRcIter
import Derived.Test.YtcgfnfejacgaeaaDoorRgIn
namespace Go.Proofs.YtcgfnfejacgaeaaDoor
open Go.RowKit Go.Shelf
attribute [local go_sem] Oper.semAt_some

def recC (rs : List Rc) (x : Fin rs.length) : List Value := rcv (rcsL (rs.take x.1)).length rs[x].hash ⟨rs[x].data.toArray⟩
/-- The cells of some of the records. -/
def rowR (rs : List Rc) (pre : List (Fin rs.length)) : List Value := pre.flatMap (recC rs)
theorem rowR_snoc (rs : List Rc) (pre : List (Fin rs.length)) (x : Fin rs.length) : rowR rs (pre ++ [x]) = rowR rs pre ++ recC rs x := by simp [rowR]
theorem recs_in (n : Nat) (A : Option Addr) (k c : Nat) (w : World) :
    CallsIn Fence.wide n Tryd.prog 29 #[.slice A k c] w fun e w' => e = .returned (.func (.func 41) #[] #[.pointer (some ⟨w.heap.size, 0, none⟩)]) ∧ w' = w.alloc (.cells #[.slice A k c] 23) := by
  refine callsIn_wide.2 ?_
  go_enter Tryd.func29, Tryd.ntmps29
  go_wp2_with fail
  go_ret
  exact ⟨rfl, rfl⟩
/-- What the loop keeps: the row of records so far, in its box; the results' two; all that was there. -/
structure WkI (w : World) (rs : List Rc) (g4 g5 gl : Nat) (pre : List (Fin rs.length)) (W : World) : Prop where
  row : ∃ v, Box W gl 45 #[v] ∧ W.ownsRow w.heap.size 49 34 v pre.length (rowR rs pre)
  r4 : Box W g4 45 #[.slice none 0 0]
  r5 : Box W g5 24 #[.int .i64 0]
  kp : Kp (fun _ => False) w W
section
variable {w W W' : World} {rs : List Rc} {g4 g5 gl B : Nat} {pre : List (Fin rs.length)}
theorem WkI.turn (h : WkI w rs g4 g5 gl pre W) (hB : w.heap.size ≤ B) (ht : Turn TO B W W') : WkI w rs g4 g5 gl pre W' := by
  obtain ⟨v, hv, ho⟩ := h.row
  exact ⟨⟨v, ht.box hv (show ¬ _ = _ by decide), ht.own ho (show ¬ _ = _ by decide)⟩, ht.box h.r4 (show ¬ _ = _ by decide), ht.box h.r5 (show ¬ _ = _ by decide), ht.kp h.kp hB⟩
theorem WkI.still (h : WkI w rs g4 g5 gl pre W) (hk : Kp (fun _ => False) W W') : WkI w rs g4 g5 gl pre W' := h.turn (Nat.le_refl _) (Turn.still hk)
end
theorem own_shapeR {w : World} {base : Nat} {e : TypeId} {size n : Nat} {v : Value} {xs : List Value} (h : w.ownsRow base e size v n xs) : ∃ A c, v = .slice A n c := by
  rcases h.2 with ⟨rfl, rfl⟩ | ⟨g, cap, _, rfl, _⟩
  · exact ⟨_, _, rfl⟩
  · exact ⟨_, _, rfl⟩
theorem infoRec : ∃ i z, Tryd.prog.info? 49 = some i ∧ i.zero = some z ∧ i.size = 34 ∧ i.bytes = 56 ∧ z.cells.size = 34 := by
  have h : (Tryd.prog.info? 49).map (fun i => (i.zero.map (·.cells.size), i.size, i.bytes)) = some (some 34, 34, 56) := by kernel_rfl
  cases hq : Tryd.prog.info? 49 with
  | none => rw [hq] at h; cases h
  | some i =>
    rw [hq] at h
    simp only [Option.map_some, Option.some.injEq, Prod.mk.injEq] at h
    cases hz : i.zero with
    | none => rw [hz] at h; cases h.1
    | some z =>
      rw [hz] at h
      exact ⟨i, z, rfl, hz, h.2.1, h.2.2, by simpa using h.1⟩
def WalkEnd (w : World) (rs : List Rc) (e : Ending) (w' : World) : Prop := ∃ v, e = .returned (.tuple #[v, .int .i64 0]) ∧ w'.ownsRow w.heap.size 49 34 v rs.length (rowR rs (List.finRange rs.length)) ∧ Kp (fun _ => False) w w'
theorem walk_res : Tryd.f12.results = #[.cell 4 45, .cell 5 24] := by kernel_rfl

theorem run_loadS (w : World) (g : Nat) (v : Value) (hc : w.cell? ⟨g, 0, none⟩ = some v) : (loadVar 45 ⟨g, 0, none⟩).run Tryd.prog w = .ok v w := by
  have hu : Tryd.prog.underlying 45 = some (.slice 49) := Tryd.underlying45
  have hi : (Tryd.prog.info? 45).map (·.size) = some 1 := by kernel_rfl
  simp [loadVar, hc, go_sem]
theorem run_loadE (w : World) (g : Nat) (z : Int) (hc : w.cell? ⟨g, 0, none⟩ = some (.int .i64 z)) : (loadVar 24 ⟨g, 0, none⟩).run Tryd.prog w = .ok (.int .i64 z) w := by
  have hu : Tryd.prog.underlying 24 = some (.int .i64) := Tryd.underlying24
  have hi : (Tryd.prog.info? 24).map (·.size) = some 1 := by kernel_rfl
  simp [loadVar, hc, go_sem]
theorem results_sr {fn : Func} {p q : Tmp} (h : fn.results = #[.cell p 45, .cell q 24]) (tmps : Array Value) (w : World) (g g' : Nat) (v : Value) (z : Int)
    (hp : tmps.getD p undef = .pointer (some ⟨g, 0, none⟩)) (hq : tmps.getD q undef = .pointer (some ⟨g', 0, none⟩)) (hc : w.cell? ⟨g, 0, none⟩ = some v) (hc' : w.cell? ⟨g', 0, none⟩ = some (.int .i64 z)) :
    (results fn tmps).run Tryd.prog w = .ok (.tuple #[v, .int .i64 z]) w := by
  have hp' : tmps[p]?.getD undef = .pointer (some ⟨g, 0, none⟩) := by simpa using hp
  have hq' : tmps[q]?.getD undef = .pointer (some ⟨g', 0, none⟩) := by simpa using hq
  simp [results, h, hp', hq', asAddr, run_loadS w g v hc, run_loadE w g' z hc', Sem.run_bind, Result.andThen]
set_option maxRecDepth 100000 in
set_option maxHeartbeats 8000000 in
theorem walk_any (rs : List Rc) (hok : ∀ r ∈ rs, r.Ok) (A : Option Addr) (used n c : Nat) (w : World) (hu : (rcsL rs).length = used) (hn : used ≤ n) (hc : n ≤ c) (_hcm : c ≤ maxLen) (hle : used ≤ 1099511627776) (hr : Rd w A (rcsL rs)) :
    Calls Tryd.prog 12 #[.slice A n c, .int .i64 used] w (WalkEnd w rs) := by
  refine (callsIn_wide (n := 3)).1 ?_
  have hro : Fence.wide.round = none := rfl
  have hF : ∀ f, Fence.wide.fn f := fun _ => trivial
  obtain ⟨i0, z0, hi, hz0, hz1, hz2, hz3⟩ := infoRec
  obtain ⟨m, hm⟩ : ∃ m, m = rs.length := ⟨_, rfl⟩
  have hml : m ≤ used := by rw [hm, ← hu]; exact rcsL_lens hok
  have d1 : decide ((used : Int) < 0) = false := by simp
  have d2 : decide ((n : Int) < (used : Int)) = false := by simp; omega
  have HOK := Lib.hid hok
  have HU := Lib.hid hu
  have HM := Lib.hid hm
  have HR := Lib.hid hr
  obtain ⟨W1, hW1, b4, b5, b6, k0⟩ : ∃ W1, W1 = ((w.alloc (.cells #[.slice none 0 0] 45)).alloc (.cells #[.int .i64 0] 24)).alloc (.cells #[.slice none 0 0] 45) ∧ Box W1 w.heap.size 45 #[.slice none 0 0] ∧ Box W1 (w.heap.size + 1) 24 #[.int .i64 0] ∧ Box W1 (w.heap.size + 2) 45 #[.slice none 0 0] ∧ Kp (fun _ => False) w W1 := by
    refine ⟨_, rfl, ((Box.new w _ _).alloc _).alloc _, ?_, ?_, (((Kp.refl _ w).alloc _).alloc _).alloc _⟩
    · have := (Box.new (w.alloc (.cells #[.slice none 0 0] 45)) 24 #[.int .i64 0]).alloc (.cells #[.slice none 0 0] 45)
      simpa only [World.size_alloc] using this
    · have := Box.new ((w.alloc (.cells #[.slice none 0 0] 45)).alloc (.cells #[.int .i64 0] 24)) 45 #[.slice none 0 0]
      simpa only [World.size_alloc] using this
  have HW1 := Lib.hid hW1
  have I1 : Hid (WkI w rs w.heap.size (w.heap.size + 1) (w.heap.size + 2) [] W1) := Lib.hid ⟨⟨_, b6, World.ownsRow_nil _ _ _ _⟩, b4, b5, k0⟩
  have HS1 : Hid (W1.heap.size = w.heap.size + 3) := Lib.hid (by rw [hW1]; simp)
  clear hok hu hm hr hW1 b4 b5 b6 k0
  refine callsIn_of_wp_marks Tryd.func12 rfl trivial ?_ hro
  simp only [Tryd.ntmps12, List.size_toArray, List.length_cons, List.length_nil, Nat.reduceAdd, Nat.reduceSub, Array.replicate_succ, Array.replicate_zero, List.push_toArray, List.append_toArray, List.nil_append, List.cons_append]
  gi_wp2_with (first | (gi_at_call 29; rw [← HW1.out]; refine (recs_in (3 - 1) _ _ _ _).mono ?_; rintro e w' ⟨rfl, rfl⟩) | fail)
  obtain ⟨g6, hg6⟩ : ∃ g, g = w.heap.size + 1 + 1 := ⟨_, rfl⟩
  obtain ⟨g5, hg5⟩ : ∃ g, g = w.heap.size + 1 := ⟨_, rfl⟩
  obtain ⟨g4, hg4⟩ : ∃ g, g = w.heap.size := ⟨_, rfl⟩
  obtain ⟨gb, hgb⟩ : ∃ g, g = W1.heap.size := ⟨_, rfl⟩
  obtain ⟨W2, hW2⟩ : ∃ v, v = W1.alloc (.cells #[.slice A used c] 23) := ⟨_, rfl⟩
  have hI1 : WkI w rs g4 g5 g6 [] W1 := by rw [hg4, hg5, hg6]; exact I1.out
  have k12 : Kp (fun _ => False) W1 W2 := by rw [hW2]; exact (Kp.refl _ _).alloc _
  have hb2 : Box W2 gb 23 #[.slice A used c] := by rw [hW2, hgb]; exact Box.new _ _ _
  have hI2 := hI1.still k12
  have hS2 : w.heap.size ≤ W2.heap.size := hI2.kp.size
  have h6 : g6 < gb := by rw [hgb, hg6]; have := HS1.out; omega
  have hr2 : Rd W2 A (rcsL rs) := rd_still HR.out hI2.kp
  have hgw : w.heap.size ≤ g6 := by omega
  have hg46 : g4 < g5 ∧ g5 < g6 := by omega
  rw [← hW2, ← hgb, ← hg6, ← hg5, ← hg4]
  have HG4E := Lib.hid hg4
  clear hW2 hgb hg6 hg5 hg4
  refine wpIn_range_own hro (by omega) (gf := 41) (lb := #[.pointer (some ⟨gb, 0, none⟩)]) (encs := encR rs) (T := TO) (Kb := Near TK) (S := fun ys => ys = List.finRange rs.length) (Sp := fun pre => ∃ k, k ≤ rs.length ∧ pre = (List.finRange rs.length).take k) (N := rs.length) rfl (hF _) (enters_of Tryd.func41 (by kernel_rfl) rfl)
    (fun l J Jx W hW hJ _ hY h0 => callsIn_wide.2 (records1_any (3 - 1) (by omega) rs HOK.out gb used c A HU.out (by omega) l J Jx W (hb2.kp hW (fun e => e)) (rd_still hr2 hW) hJ hY h0))
    (fun h k => h.trans k) (fun W l o o' h1 h2 => Near.put _ h1 h2) (fun _ => rfl)
    (fun pre W => WkI w rs g4 g5 g6 pre W) (fun _ _ _ => False)
    (fun x a' W => ∃ Bx, g6 < Bx ∧ Box W Bx 49 (recC rs x).toArray ∧ a' = { tmps := #[.slice A n c, .int .i64 used, undef, undef, .pointer (some ⟨g4, 0, none⟩), .pointer (some ⟨g5, 0, none⟩), .pointer (some ⟨g6, 0, none⟩), .pointer (some ⟨Bx, 0, none⟩), .int .i64 0, .int .i64 used, .bool false, .bool false, .int .i64 used, .slice A n c, .int .i64 n, .bool false, .bool false, .slice A n c, .int .i64 used, .slice A used c, .func (Fn.func 41) #[] #[.pointer (some ⟨gb, 0, none⟩)], .agg (recC rs x).toArray, .int .i64 0, undef, undef, undef, undef, undef, undef, undef, undef], defers := [] })
    (fun s X X' h t => h.turn hS2 t) (fun _ _ _ _ h _ => h) (fun x a' X X' h t => by obtain ⟨Bx, h1, h2, h3⟩ := h; exact ⟨Bx, h1, t.box h2 (show ¬ _ = _ by decide), h3⟩) hI2
    ?assign ?body ?done ?stop
  case stop =>
    rintro D cc pre W _ _ h _
    exact h.elim
  case assign =>
    rintro l pre x W K hi hK
    rw [show encR rs x = #[.agg (recC rs x).toArray, .int .i64 0] from rfl]
    have hcl : (recC rs x).length = 34 := rcv_len (HOK.out _ (List.getElem_mem _)).1
    have hc1 : ∀ v ∈ recC rs x, v.oneCell' = true := rcv_one _ _ _
    have HI := Lib.hid hi
    have HK := Lib.hid hK
    obtain ⟨cx, hcx⟩ : ∃ cx, cx = recC rs x := ⟨_, rfl⟩
    rw [← hcx] at hcl hc1 HK ⊢
    have HCL := Lib.hid hcl
    have HC1 := Lib.hid hc1
    clear hi hK hcl hc1 hcx
    simp only [List.zip_toArray, List.zip_cons_cons, List.zip_nil_right, List.foldl_cons, List.foldl_nil, List.setIfInBounds_toArray, List.set_cons_succ, List.set_cons_zero, List.foldl_toArray']
    gi_wp2_with (first | (refine nnew_in rfl rfl 49 rfl (.tmp 7) (.tmp 21) rfl zRec cx HCL.out (fun _ => rfl) (fun _ => rfl) HC1.out ?_; intro W3 Bx hge hb hk; have HGE := Lib.hid hge; have HBX := Lib.hid hb; have HKX := Lib.hid hk; clear hge hb hk) | fail)
    refine HK.out _ _ ⟨HKX.out.size, fun k o _ hk' _ => (HKX.out.block k (Array.getElem?_eq_some_iff.1 hk').1 (fun e => e)).trans hk'⟩ (Near.of HKX.out (fun _ _ _ _ _ e => e.elim)) (HI.out.still HKX.out) ⟨Bx, ?_, HBX.out, rfl⟩
    obtain ⟨v, hv, _⟩ := HI.out.row
    have := hv.lt
    have := HGE.out
    omega
  case body =>
    rintro l pre x a' W hI ⟨Bx, hBx, bX, rfl⟩ hlt
    obtain ⟨v, hv, hrow⟩ := hI.row
    obtain ⟨vA, vc, rfl⟩ := own_shapeR hrow
    have hcl : (recC rs x).length = 34 := rcv_len (HOK.out _ (List.getElem_mem _)).1
    have hc1 : ∀ v ∈ recC rs x, v.oneCell' = true := rcv_one _ _ _
    have hsn := rowR_snoc rs pre x
    obtain ⟨cx, hcx⟩ : ∃ cx, cx = recC rs x := ⟨_, rfl⟩
    rw [← hcx] at hcl hc1 hsn bX ⊢
    have hpl : pre.length < m := by rw [HM.out]; exact hlt
    obtain ⟨pl, hple⟩ : ∃ pl, pl = pre.length := ⟨_, rfl⟩
    rw [← hple] at hrow hpl hv
    have HCL := Lib.hid hcl
    have HC1 := Lib.hid hc1
    have HSN := Lib.hid hsn
    have HI := Lib.hid hI
    have HV := Lib.hid hv
    have HRow := Lib.hid hrow
    have HBX := Lib.hid bX
    have HPL := Lib.hid hple
    have y6 : W.cell? ⟨g6, 0, none⟩ = some (.slice vA pl vc) := hv.cell 0
    have yf : W.frozen? ⟨g6, 0, none⟩ = false := hv.free 0
    have HNE := Lib.hid (hv.own_ne hrow (by decide))
    clear hcl hc1 hsn hI hv hrow bX hcx hlt hple
    gi_wp2_with (first | (refine nload_in rfl 49 (.tmp 7) rfl Bx 0 rfl cx _ HBX.out.range' Tryd.underlying49 rfl (by rw [HCL.out]; exact info_rec) ?_) | (refine nslice1_in rfl 45 49 (.tmp 27) rfl Tryd.underlying45 zRec (by decide) (by decide) cx rfl HCL.out ?_; intro W3 gx hge hb3 hk3 hw3 hgx; have HB3 := Lib.hid hb3; have HK3 := Lib.hid hk3; clear hge hb3 hk3 hw3 hgx) | (gi_at_builtin; go_must (refine wpListIn_append_own _ rfl (.tmp 26) (.tmp 28) 45 rfl w.heap.size 49 i0 z0 34 56 Tryd.underlying45 hi hz0 hz1 hz2 hz3 (by decide) (.slice vA pl vc) pl _ rfl (nown_kp HRow.out HK3.out (fun _ _ e => e)) ⟨gx, 0, none⟩ 1 1 cx rfl (by rw [HCL.out]) (fun j u hu => World.news_of_block HB3.out j u (by simpa using hu)) HC1.out (by unfold maxLen; omega) (by omega) (by have := HI.out.kp.size; have := HK3.out.size; omega) ?_; intro v' W4 hown4 hgrow4 _; obtain ⟨A4, c4, rfl⟩ := own_shapeR hown4; have HO4 := Lib.hid hown4; have HG4 := Lib.hid hgrow4; have HB4 := Lib.hid ((HV.out.kp HK3.out (fun e => e)).grown hgrow4 (fun e => HNE.out e.symm)); clear hown4 hgrow4 y6 yf; have y7 : W4.cell? ⟨g6, 0, none⟩ = some (.slice vA pl vc) := HB4.out.cell 0; have yg : W4.frozen? ⟨g6, 0, none⟩ = false := HB4.out.free 0)) | fail)
    obtain ⟨W5, hW5⟩ : ∃ v, v = W4.setCell ⟨g6, 0, none⟩ (.slice A4 (pl + 1) c4) := ⟨_, rfl⟩
    have hkS : Kp (fun k => k = g6 ∨ (Value.slice vA pl vc).ownBlock = some k) W W5 := by
      rw [hW5]
      exact ((HK3.out.mono fun _ _ e => e.elim).grown HG4.out fun k e => .inr (.inr e)).setCell (.inr (.inl rfl)) _
    have hty : ∀ k, (k = g6 ∨ (Value.slice vA pl vc).ownBlock = some k) → ∃ cs t fr, W.heap[k]? = some (Obj.cells cs t fr) ∧ (t = 45 ∨ t = 49) ∧ w.heap.size ≤ k := by
      rintro k (rfl | e)
      · exact ⟨_, _, _, HV.out, .inl rfl, hgw⟩
      · obtain ⟨_, cs, fr, e'⟩ := own_ltt HRow.out e
        exact ⟨cs, _, fr, e', .inr rfl, (HRow.out.lt k e).1⟩
    have hb5 : Box W5 g6 45 #[.slice A4 (pl + 1) c4] := by
      rw [hW5]
      simpa using HB4.out.put 0 (.slice A4 (pl + 1) c4)
    have ho5 : W5.ownsRow w.heap.size 49 34 (.slice A4 (pl + 1) c4) (pl + 1) (rowR rs pre ++ cx) := by
      rw [hW5]
      exact nown_kp HO4.out (Kp.one _ _ _ _) (fun k e e' => HB4.out.own_ne HO4.out (by decide) (by rw [e, e']))
    have h4 : ¬ (g4 = g6 ∨ (Value.slice vA pl vc).ownBlock = some g4) := by
      rintro (e | e)
      · omega
      · exact HI.out.r4.own_ne HRow.out (by decide) e
    have h5 : ¬ (g5 = g6 ∨ (Value.slice vA pl vc).ownBlock = some g5) := by
      rintro (e | e)
      · omega
      · exact HI.out.r5.own_ne HRow.out (by decide) e
    rw [← hW5]
    refine ⟨⟨hkS.size, fun k o _ hk ho => (hkS.block k (Array.getElem?_eq_some_iff.1 hk).1 fun hS => ?_).trans hk⟩, Near.of hkS (fun k cs t fr e hS => ?_), ?_⟩
    · obtain ⟨cs, t, fr, e, _⟩ := hty k hS
      rw [hk] at e
      cases e
      cases ho
    · obtain ⟨cs', t', fr', e', ht, _⟩ := hty k hS
      rw [e] at e'
      cases e'
      rintro (h | h | h) <;> rcases ht with ht | ht <;> rw [ht] at h <;> exact absurd h (by decide)
    · refine ⟨⟨_, hb5, ?_⟩, HI.out.r4.kp hkS h4, HI.out.r5.kp hkS h5, HI.out.kp.trans_new hkS fun k hS => .inl (by obtain ⟨_, _, _, _, _, h⟩ := hty k hS; exact h)⟩
      rw [HSN.out, List.length_append, ← HPL.out]
      exact ho5
  case done =>
    rintro D xs W hD rfl hI hdef
    obtain ⟨v, hv, hrow⟩ := hI.row
    obtain ⟨vA, vc, rfl⟩ := own_shapeR hrow
    have hll : (List.finRange rs.length).length = m := by rw [List.length_finRange]; exact HM.out.symm
    rw [hll] at hrow hv
    have HI := Lib.hid hI
    have HRow := Lib.hid hrow
    have y6 : W.cell? ⟨g6, 0, none⟩ = some (.slice vA m vc) := hv.cell 0
    have y4 : W.cell? ⟨g4, 0, none⟩ = some (.slice none 0 0) := hI.r4.cell 0
    have yf4 : W.frozen? ⟨g4, 0, none⟩ = false := hI.r4.free 0
    have hb4 : Box (W.setCell ⟨g4, 0, none⟩ (.slice vA m vc)) g4 45 #[.slice vA m vc] := by simpa using hI.r4.put 0 (.slice vA m vc)
    have hb5 : Box (W.setCell ⟨g4, 0, none⟩ (.slice vA m vc)) g5 24 #[.int .i64 0] := hI.r5.far (by show g5 ≠ g4; omega) _
    have hne := hI.r4.own_ne hrow (by decide)
    have hk4 : Kp (fun k => k = g4) W (W.setCell ⟨g4, 0, none⟩ (.slice vA m vc)) := Kp.one _ _ _ _
    have HB4 := Lib.hid hb4
    have HB5 := Lib.hid hb5
    have HK4 := Lib.hid hk4
    have HNE := Lib.hid hne
    have HDEF := Lib.hid hdef
    have y5 : W.cell? ⟨g5, 0, none⟩ = some (.int .i64 0) := hI.r5.cell 0
    have yf5 : W.frozen? ⟨g5, 0, none⟩ = false := hI.r5.free 0
    have h45 : g5 ≠ g4 := by omega
    have h54 : g4 ≠ g5 := by omega
    clear hI hrow hv hll hb4 hb5 hne hk4 hdef
    gi_wp2_with fail
    obtain ⟨W6, hW6⟩ : ∃ v, v = (W.setCell ⟨g4, 0, none⟩ (.slice vA m vc)).setCell ⟨g5, 0, none⟩ (.int .i64 0) := ⟨_, rfl⟩
    rw [← hW6]
    have b4 : Box W6 g4 45 #[.slice vA m vc] := by rw [hW6]; exact HB4.out.far (by show g4 ≠ g5; omega) _
    have b5 : Box W6 g5 24 #[.int .i64 0] := by rw [hW6]; simpa using HB5.out.put 0 (.int .i64 0)
    have k6 : Kp (fun k => k = g4 ∨ k = g5) W W6 := by
      rw [hW6]
      exact (HK4.out.mono fun _ _ e => .inl e).setCell (.inr (.inr rfl)) _
    have o6 : W6.ownsRow w.heap.size 49 34 (.slice vA m vc) m (rowR rs (List.finRange rs.length)) := nown_kp HRow.out k6 (by
      rintro k e (rfl | rfl)
      · exact HNE.out e
      · exact HI.out.r5.own_ne HRow.out (by decide) e)
    have hdD : W6.heap[D]? = some (.deferred (some [])) := by
      refine (k6.block D (Array.getElem?_eq_some_iff.1 HDEF.out).1 ?_).trans HDEF.out
      rintro (rfl | rfl)
      · have := HI.out.r4
        unfold Box at this
        rw [HDEF.out] at this
        cases this
      · have := HI.out.r5
        unfold Box at this
        rw [HDEF.out] at this
        cases this
    have kp6 : Kp (fun _ => False) w W6 := HI.out.kp.trans_new k6 fun k e => .inl (by have := HG4E.out; omega)
    have kD : Kp (fun k => k = D) W6 (W6.putObj D (.deferred none)) := (Kp.refl _ W6).grown (grownBy_putObj' W6 D (.deferred none)) fun k e => by cases e; exact .inr rfl
    have hDg : D ≠ g4 ∧ D ≠ g5 := by
      constructor
      · rintro rfl
        unfold Box at b4
        rw [hdD] at b4
        cases b4
      · rintro rfl
        unfold Box at b5
        rw [hdD] at b5
        cases b5
    refine ⟨by simp, .inl ⟨_, _, rfl, run_takeDeferred hdD, ?_⟩⟩
    refine ⟨_, results_sr walk_res _ _ g4 g5 (.slice vA m vc) 0 rfl rfl ((b4.kp kD (fun e => hDg.1 e.symm)).cell 0) ((b5.kp kD (fun e => hDg.2 e.symm)).cell 0), .slice vA m vc, rfl, ?_, kp6.trans_new kD fun k e => .inl (by omega)⟩
    have := nown_kp o6 kD (by
      rintro k e rfl
      obtain ⟨_, cs, fr, e'⟩ := own_ltt o6 e
      rw [hdD] at e'
      cases e')
    exact Eq.mp (congrArg (fun q => (W6.putObj D (.deferred none)).ownsRow w.heap.size 49 34 (.slice vA m vc) q (rowR rs (List.finRange rs.length))) HM.out) this
end Go.Proofs.YtcgfnfejacgaeaaDoor
