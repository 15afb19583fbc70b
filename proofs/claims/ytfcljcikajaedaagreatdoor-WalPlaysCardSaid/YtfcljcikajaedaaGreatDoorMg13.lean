/- The document's own disk, as the statements bear it: rows that are never written once they are shared. No condition. -/
import Derived.Test.YtfcljcikajaedaaGreatDoorMg12
import Derived.Deep.DeepCutAuto
import Derived.Deep.CutRange
import Derived.Deep.CutBlock
import Derived.Test.YtfcljcikajaedaaGreatDoorMg3
namespace Go.Proofs.YtfcljcikajaedaaGreatDoor
open Go.RowKit Go.Maps

/-- A row, read alone. -/
def RdR (w : World) (t : TypeId) (size : Nat) (v : Value) (n : Nat) (xs : List Value) : Prop :=
  xs.length = n * size ∧ ∃ A cap, v = .slice A n cap ∧ n ≤ cap ∧ (n = 0 ∨ ∃ (b : Nat) (cur : Array Value), A = some ⟨b, 0, none⟩ ∧ Box w b t cur ∧ ∀ (j : Nat) (x : Value), xs[j]? = some x → cur[j]? = some x)
theorem RdR.nil (w : World) (t : TypeId) (size : Nat) : RdR w t size (.slice none 0 0) 0 [] := ⟨by simp, none, 0, rfl, Nat.le_refl _, .inl rfl⟩
theorem RdR.of_own {w : World} {base : Nat} {t : TypeId} {size n : Nat} {v : Value} {xs : List Value} (h : w.ownsRow base t size v n xs) : RdR w t size v n xs := by
  refine ⟨h.1, ?_⟩
  rcases h.2 with ⟨rfl, rfl⟩ | ⟨g, cap, cur, rfl, _, hg, hnc, _, hsz, ht⟩
  · exact ⟨none, 0, rfl, Nat.le_refl _, .inl rfl⟩
  · refine ⟨_, cap, rfl, hnc, .inr ⟨g, cur, rfl, hg, fun j x hx => ?_⟩⟩
    rw [← ht, List.getElem?_take] at hx
    split at hx
    · simpa using hx
    · cases hx
theorem RdR.kp {S : Nat → Prop} {w w' : World} {t : TypeId} {size n : Nat} {v : Value} {xs : List Value} (h : RdR w t size v n xs) (hk : Kp S w w') (hn : ∀ k cs fr, w.heap[k]? = some (.cells cs t fr) → ¬ S k) : RdR w' t size v n xs := by
  obtain ⟨h1, A, cap, hv, hc, h2⟩ := h
  refine ⟨h1, A, cap, hv, hc, ?_⟩
  rcases h2 with h2 | ⟨b, cur, hA, hb, hx⟩
  · exact .inl h2
  · exact .inr ⟨b, cur, hA, hb.kp hk (hn b _ _ hb), hx⟩
/-- The cells of the row, where it has some. -/
theorem RdR.cell {w : World} {t : TypeId} {size n : Nat} {v : Value} {xs : List Value} (h : RdR w t size v n xs) (hn : 0 < n) : ∃ b cap, v = .slice (some ⟨b, 0, none⟩) n cap ∧ n ≤ cap ∧ ∀ j x, xs[j]? = some x → w.cell? ⟨b, j, none⟩ = some x := by
  obtain ⟨_, A, cap, hv, hc, h2⟩ := h
  rcases h2 with h2 | ⟨b, cur, rfl, hb, hx⟩
  · omega
  · exact ⟨b, cap, hv, hc, fun j x hj => by rw [hb.cell]; exact hx j x hj⟩
theorem strs_one (l : List (List UInt8)) : ∀ u ∈ strs l, u.oneCell' = true := fun u hu => by
  obtain ⟨_, _, rfl⟩ := List.mem_map.1 hu
  rfl
/-- Writes that wait, as pairs. -/
def prs (l : List (Nat × List UInt8)) : List Value := l.flatMap fun x => [.int .i64 x.1, .string ⟨x.2.toArray⟩]
theorem prs_length (l : List (Nat × List UInt8)) : (prs l).length = l.length * 2 := by
  induction l with
  | nil => rfl
  | cons x r ih => simp only [prs, List.flatMap_cons, List.length_append, List.length_cons, List.length_nil] at ih ⊢; omega
theorem prs_snoc (l : List (Nat × List UInt8)) (x : Nat × List UInt8) : prs (l ++ [x]) = prs l ++ [.int .i64 x.1, .string ⟨x.2.toArray⟩] := by simp [prs]
theorem prs_get (l : List (Nat × List UInt8)) (k : Nat) (x : Nat × List UInt8) (hk : l[k]? = some x) : (prs l)[k * 2]? = some (.int .i64 x.1) ∧ (prs l)[k * 2 + 1]? = some (.string ⟨x.2.toArray⟩) := by
  induction l generalizing k with
  | nil => simp at hk
  | cons y r ih =>
    cases k with
    | zero => cases hk; exact ⟨rfl, rfl⟩
    | succ k =>
      have := ih k (by simpa using hk)
      have e : prs (y :: r) = .int .i64 y.1 :: .string ⟨y.2.toArray⟩ :: prs r := rfl
      rw [e, show (k + 1) * 2 = k * 2 + 1 + 1 by omega]
      simpa using this
/-- The document's disk reads as d. -/
def leftZ (d : Dm) : Int := if d.lit then (d.left : Int) else -1
def rcs (d : Dm) (vo vw : Value) : Array Value := #[vo, vw, .bool (!d.power), .int .i64 (leftZ d), .string ⟨d.keep.toArray⟩, .int .u64 d.acts]
structure Rf (w : World) (vo vw : Value) (d : Dm) : Prop where
  on : RdR w 9 1 vo d.on.length (strs d.on)
  wt : RdR w 142 2 vw d.wait.length (prs d.wait)
def Ref (w : World) (v : Value) (d : Dm) : Prop := ∃ vo vw, v = .agg (rcs d vo vw) ∧ Rf w vo vw d
section
variable {w w' : World} {vo vw v : Value} {d : Dm}
theorem Rf.kp {S : Nat → Prop} (h : Rf w vo vw d) (hk : Kp S w w') (hn : ∀ k cs fr, (w.heap[k]? = some (.cells cs 9 fr) ∨ w.heap[k]? = some (.cells cs 142 fr)) → ¬ S k) : Rf w' vo vw d :=
  ⟨h.on.kp hk fun k cs fr e => hn k cs fr (.inl e), h.wt.kp hk fun k cs fr e => hn k cs fr (.inr e)⟩
theorem Rf.still (h : Rf w vo vw d) (hk : Kp (fun _ => False) w w') : Rf w' vo vw d := h.kp hk fun _ _ _ _ h => h
theorem Rf.dt {B : Nat} (h : Rf w vo vw d) (hk : Kp (fun k => B ≤ k ∧ DT w k) w w') : Rf w' vo vw d := h.kp hk fun k cs fr e hh => by
  rcases e with e | e
  · exact not_DT e ⟨by decide, by decide, by decide⟩ hh.2
  · exact not_DT e ⟨by decide, by decide, by decide⟩ hh.2
theorem Ref.still (h : Ref w v d) (hk : Kp (fun _ => False) w w') : Ref w' v d := by
  obtain ⟨vo, vw, hv, hr⟩ := h
  exact ⟨vo, vw, hv, hr.still hk⟩
theorem Ref.dt {B : Nat} (h : Ref w v d) (hk : Kp (fun k => B ≤ k ∧ DT w k) w w') : Ref w' v d := by
  obtain ⟨vo, vw, hv, hr⟩ := h
  exact ⟨vo, vw, hv, hr.dt hk⟩
end
end Go.Proofs.YtfcljcikajaedaaGreatDoor

/- The document's own disk: a write reaches it; the power goes; an act. No condition. -/
namespace Go.Proofs.YtfcljcikajaedaaGreatDoor
open Go.RowKit Go.Maps

theorem strInf : ∃ i, Tryz.prog.info? 9 = some i ∧ i.zero = some (.string ⟨#[]⟩) ∧ i.size = 1 ∧ i.bytes = 16 := by
  have h : (Tryz.prog.info? 9).map (fun i => (i.zero, i.size, i.bytes)) = some (some (.string ⟨#[]⟩), 1, 16) := by kernel_rfl
  obtain ⟨i, h1, h2, h3, h4⟩ := info_parts h
  exact ⟨i, h1, h2, h3, h4⟩
theorem infoRef : (Tryz.prog.info? 37).map (·.size) = some 6 := by kernel_rfl
theorem rcs_one (d : Dm) (vo vw : Value) (h1 : vo.oneCell' = true) (h2 : vw.oneCell' = true) : ∀ v ∈ (rcs d vo vw).toList, v.oneCell' = true := fun v hv => by
  simp only [rcs, List.mem_cons, List.not_mem_nil, or_false] at hv
  rcases hv with rfl | rfl | rfl | rfl | rfl | rfl
  · exact h1
  · exact h2
  all_goals rfl
theorem put_row {W w1 : World} {B : Nat} {e : TypeId} {v' : Value} {n : Nat} {xs : List Value} {o : Option Nat} (hn : 0 < n) (h : w1.ownsRow B e 1 v' (0 + n) ([] ++ xs)) (hg : W.grownBy w1 o) (ho : o = none := by rfl) : ∃ g cp, v' = .slice (some ⟨g, 0, none⟩) n cp ∧ w1.ownsRow B e 1 (.slice (some ⟨g, 0, none⟩) n cp) n xs ∧ W.grownBy w1 none := by
  rw [Nat.zero_add, List.nil_append] at h
  subst ho
  rcases h.2 with ⟨_, h0⟩ | ⟨g, cp, cur, hv, _⟩
  · omega
  · subst hv
    exact ⟨g, cp, rfl, h, hg⟩
theorem own_ne {w : World} {B : Nat} {e t : TypeId} {n g k cp : Nat} {xs : List Value} {cs : Array Value} (h : w.ownsRow B e 1 (.slice (some ⟨g, 0, none⟩) n cp) n xs) (hb : Box w k t cs) (hne : e ≠ t) : ¬ g = k := by
  rintro rfl
  obtain ⟨cur, hc⟩ := own_block h rfl
  exact Box.type_ne (t := e) hc hb hne rfl
theorem Kp.of_put {w0 w5 : World} {g : Nat} (b : Nat) (v : Value) (hk : Kp (fun k => k = g) (w0.setCell ⟨b, 0, none⟩ v) w5) : Kp (fun k => k = b ∨ k = g) w0 w5 := ((Kp.one w0 b 0 v).mono fun _ _ e => .inl e).trans (hk.mono fun _ _ e => .inr e)
set_option maxRecDepth 100000 in
set_option maxHeartbeats 2000000 in
theorem put_any {w : World} {vo vw : Value} {d : Dm} (h : Rf w vo vw d) (a : Nat) (b : List UInt8) (ha : a < d.on.length) (hf : d.on.length ≤ 4096) :
    Calls Tryz.prog 82 #[.agg (rcs d vo vw), .agg #[.int .i64 a, .string ⟨b.toArray⟩]] w fun e w' => ∃ vo', e = .returned (.agg (rcs d vo' vw)) ∧ Rf w' vo' vw { d with on := d.on.set a b } ∧ Kp (fun _ => False) w w' := by
  obtain ⟨bo, co, hvo, hco, hcell⟩ := h.on.cell (by omega)
  obtain ⟨iS, s1, s2, s3, s4⟩ := strInf
  have Hr : Hid (Tryz.f82.results = #[.cell 4 37]) := Lib.hid (by kernel_rfl)
  have ho5 : vw.oneCell' = true := by obtain ⟨_, A, cap, hv, _⟩ := h.wt; rw [hv]; rfl
  have H := Lib.hid h
  subst hvo
  have h3 : ∃ W, W = ((w.alloc (.cells (rcs d (.slice (some ⟨bo, 0, none⟩) d.on.length co) vw) 37)).alloc (.cells #[.int .i64 a, .string ⟨b.toArray⟩] 142)).alloc (.cells #[.slice none 0 0, .slice none 0 0, .bool false, .int .i64 0, .string ⟨#[]⟩, .int .u64 0] 37) := ⟨_, rfl⟩
  obtain ⟨W, hW⟩ := h3
  have b0 : Box W w.heap.size 37 (rcs d (.slice (some ⟨bo, 0, none⟩) d.on.length co) vw) := by rw [hW]; exact ((Box.new w _ _).alloc _).alloc _
  have b1 : Box W (w.heap.size + 1) 142 #[.int .i64 a, .string ⟨b.toArray⟩] := by
    have := (Box.new (w.alloc (.cells (rcs d (.slice (some ⟨bo, 0, none⟩) d.on.length co) vw) 37)) 142 #[.int .i64 a, .string ⟨b.toArray⟩]).alloc (.cells #[.slice none 0 0, .slice none 0 0, .bool false, .int .i64 0, .string ⟨#[]⟩, .int .u64 0] 37)
    rw [World.size_alloc] at this
    rw [hW]
    exact this
  have b2 : Box W (w.heap.size + 1 + 1) 37 #[.slice none 0 0, .slice none 0 0, .bool false, .int .i64 0, .string ⟨#[]⟩, .int .u64 0] := by
    have := Box.new ((w.alloc (.cells (rcs d (.slice (some ⟨bo, 0, none⟩) d.on.length co) vw) 37)).alloc (.cells #[.int .i64 a, .string ⟨b.toArray⟩] 142)) 37 #[.slice none 0 0, .slice none 0 0, .bool false, .int .i64 0, .string ⟨#[]⟩, .int .u64 0]
    rw [World.size_alloc, World.size_alloc] at this
    rw [hW]
    exact this
  have kW : Kp (fun _ => False) w W := by rw [hW]; exact (((Kp.refl _ w).alloc _).alloc _).alloc _
  have hcW : ∀ j u, (strs d.on)[j]? = some u → W.cell? ((⟨bo, 0, none⟩ : Addr).add j) = some u := fun j u hj => by
    have hc := hcell j u hj
    rw [Addr.add_mid, Nat.zero_add]
    exact (kW.cell (p := ⟨bo, j, none⟩) (World.block_lt_of_cell? w _ hc) (fun h => h)).trans hc
  have HCW := Lib.hid hcW
  have B0 := Lib.hid b0
  have B1 := Lib.hid b1
  have B2 := Lib.hid b2
  have KW := Lib.hid kW
  have HW := Lib.hid hW
  clear h hcell hcW b0 b1 b2 kW hW
  go_enter Tryz.func82, Tryz.ntmps82
  go_upto_region 1 with fail
  rw [← HW.out]
  have y0 : W.cell? ⟨w.heap.size, 0, none⟩ = some (.slice (some ⟨bo, 0, none⟩) d.on.length co) := B0.out.cell 0
  have y1 : W.cell? ⟨w.heap.size + 1, 0, none⟩ = some (.int .i64 a) := B1.out.cell 0
  have y2 : W.cell? ⟨w.heap.size + 1, 1, none⟩ = some (.string ⟨b.toArray⟩) := B1.out.cell 1
  go_wp2_with (first | (at_builtin; refine wpList_append_own _ rfl (.const (.slice none 0 0)) (.tmp 7) 33 rfl W.heap.size 9 iS (.string ⟨#[]⟩) 1 16 Tryz.underlying33 s1 s2 s3 s4 rfl (by decide) _ 0 [] rfl (World.ownsRow_nil _ _ _ _) ⟨bo, 0, none⟩ d.on.length co (strs d.on) rfl (by rw [strs_length, Nat.mul_one]) HCW.out (strs_one _) (by simp only [maxLen]; omega) (by omega) (Nat.le_refl _) ?_; intro v' w1 hown hg hnn; obtain ⟨g, cp, hv', ho1, hg1⟩ := put_row (by omega : 0 < d.on.length) hown hg; subst hv'; have kg := (Kp.refl (fun _ => False) W).grown hg1 (fun k e => by cases e); have B0' := Lib.hid (B0.out.kp kg (fun h => h)); have B1' := Lib.hid (B1.out.kp kg (fun h => h)); have B2' := Lib.hid (B2.out.kp kg (fun h => h)); have KG := Lib.hid kg; have HO := Lib.hid ho1; have n0 : ¬ g = w.heap.size := (own_ne ho1 B0'.out (by decide)); have n2 : ¬ g = w.heap.size + 1 + 1 := (own_ne ho1 B2'.out (by decide)); have z1 : w1.cell? ⟨w.heap.size + 1, 0, none⟩ = some (.int .i64 a) := B1'.out.cell 0; have z2 : w1.cell? ⟨w.heap.size + 1, 1, none⟩ = some (.string ⟨b.toArray⟩) := B1'.out.cell 1; have th := own_there ho1 a 1 (by omega) 0 (by decide); obtain ⟨x0, hx0⟩ := Option.isSome_iff_exists.1 th.1; have fx0 := th.2; rw [Nat.add_zero] at hx0 fx0; have p0 : (w1.setCell ⟨g, a, none⟩ (.string ⟨b.toArray⟩)).cell? ⟨w.heap.size, 0, none⟩ = some (.slice (some ⟨bo, 0, none⟩) d.on.length co) := (B0'.out.far (p := ⟨g, a, none⟩) (fun e => n0 e.symm) _).cell 0; have fp := (B0'.out.far (p := ⟨g, a, none⟩) (fun e => n0 e.symm) (.string ⟨b.toArray⟩)).free 0; have B3 := Lib.hid ((B0'.out.far (p := ⟨g, a, none⟩) (fun e => n0 e.symm) (.string ⟨b.toArray⟩)).put 0 (.slice (some ⟨g, 0, none⟩) d.on.length cp)); have B4 := Lib.hid ((B2'.out.far (p := ⟨g, a, none⟩) (fun e => n2 e.symm) (.string ⟨b.toArray⟩)).far (p := ⟨w.heap.size, 0, none⟩) (by simp; omega) (.slice (some ⟨g, 0, none⟩) d.on.length cp)); clear hown hg hnn kg hg1 ho1 y0 y1 y2 th) | (refine wpList_load_mid rfl 37 (.tmp 2) rfl w.heap.size 0 rfl (rcs d (.slice (some ⟨g, 0, none⟩) d.on.length cp) vw).toList _ (Box.range' (L := (rcs d (.slice (some ⟨g, 0, none⟩) d.on.length cp) vw).toList) B3.out) Tryz.underlying37 rfl infoRef ?_) | (refine dwpList_store_box rfl 37 (.tmp 4) (.tmp 17) rfl (w.heap.size + 1 + 1) (rcs d (.slice (some ⟨g, 0, none⟩) d.on.length cp) vw).toList rfl rfl B4.out rfl infoRef (rcs_one d _ _ rfl ho5) ?_; intro w5 hb5 hk5) | fail)
  have hgw : W.heap.size ≤ g := (HO.out.lt g rfl).1
  have hgw2 : w.heap.size ≤ g := Nat.le_trans KW.out.size hgw
  have k1 := KW.out.trans KG.out
  have k2 := ((k1.setCell (p := ⟨g, a, none⟩) (.inl hgw2) (.string ⟨b.toArray⟩)).setCell (p := ⟨w.heap.size, 0, none⟩) (.inl (Nat.le_refl _)) (.slice (some ⟨g, 0, none⟩) d.on.length cp)).trans_new hk5 (fun k e => .inl (by omega))
  have hset := own_set HO.out a [.string ⟨b.toArray⟩] (by simp; omega)
  have hwt := H.out.wt.kp k2 (fun _ _ _ _ h => h)
  have hstr : (strs d.on).take a ++ [.string ⟨b.toArray⟩] ++ (strs d.on).drop (a + [Value.string ⟨b.toArray⟩].length) = strs (d.on.set a b) := by
    simp only [strs, List.length_singleton, List.set_eq_take_append_cons_drop]
    rw [if_pos (by simpa using ha)]
    simp
  rw [hstr] at hset
  have hon := down_kp hset (Kp.of_put w.heap.size (.slice (some ⟨g, 0, none⟩) d.on.length cp) hk5) (fun k e e2 => by
    simp [Value.ownBlock] at e
    rcases e2 with e2 | e2
    · exact n0 (e.trans e2)
    · exact n2 (e.trans e2))
  refine bodyPost_ret (v := .agg (rcs d (.slice (some ⟨g, 0, none⟩) d.on.length cp) vw)) ?_ rfl ⟨_, rfl, ⟨?_, hwt⟩, k2⟩
  · exact results_cell_row Hr.out _ _ (w.heap.size + 1 + 1) 37 _ (0, 0) _ rfl hb5 Tryz.underlying37 rfl infoRef
  · have := RdR.of_own hon
    simpa using this
end Go.Proofs.YtfcljcikajaedaaGreatDoor

/- The document's own disk: a write reaches it, told as a step; the power goes. Conditions: the disk's own. -/
namespace Go.Proofs.YtfcljcikajaedaaGreatDoor
open Go.RowKit Go.Maps

theorem dwp_store_box {P : Program} {op : Oper} {a : Act} {w : World} {K : Act → World → Prop} {Q : Exit → Act → World → Prop} (ty : TypeId) (x y : Operand) (ho : op.op = .store ty x y)
    (g : Nat) (cs : List Value) (hx : a.eval x = .pointer (some ⟨g, 0, none⟩)) (hy : a.eval y = .agg cs.toArray) {t : TypeId} {old : Array Value} (hb : Box w g t old) (hs : old.size = cs.length)
    (hi : (P.info? ty).map (·.size) = some cs.length) (h1 : ∀ v ∈ cs, v.oneCell' = true)
    (h : ∀ W, Box W g t cs.toArray → Kp (fun k => k = g) w W → K (a.put op.dst undef) W) : op.wp P a w K Q := by
  have hb' : Box w g t old.toList.toArray := hb
  refine wp_store_mid ty x y ho g 0 cs.toArray hx hy ?_ (by simpa using hi) (all_oneCell_toArray h1) ?_
  · have := hb'.there
    simp only [List.size_toArray, Array.length_toList] at this ⊢
    rw [← hs]
    exact this
  · refine h _ ?_ (Kp.setCells _ 0 w (Kp.refl _ w) (.inr rfl))
    exact hb'.write (by simpa using hs.symm)
theorem type_off {w : World} {k g : Nat} {t t' : TypeId} {cs cs' : Array Value} {fr : Nat × Nat} (h : w.heap[k]? = some (.cells cs t fr)) (hb : Box w g t' cs') (hne : t ≠ t') : k ≠ g := by
  rintro rfl
  unfold Box at hb
  rw [h] at hb
  injection hb with hb
  injection hb with _ ht
  exact hne ht
theorem Rf.drew {w : World} {vo vw : Value} {d : Dm} (h : Rf w vo vw d) : Rf w.drew vo vw d := h.still ((Kp.refl _ w).drew)
theorem Rf.c1 {w : World} {vo vw : Value} {d : Dm} (h : Rf w vo vw d) : vo.oneCell' = true ∧ vw.oneCell' = true := by
  obtain ⟨_, A, cap, hv, _⟩ := h.wt
  obtain ⟨_, A', cap', hv', _⟩ := h.on
  rw [hv, hv']
  exact ⟨rfl, rfl⟩
/-- The disk while k writes are settled. -/
def Dm.upto (d : Dm) (f : Nat → Bool) (k : Nat) : Dm := { d with on := settleL f d.on (d.wait.take k) }
theorem upto_zero (d : Dm) (f : Nat → Bool) : d.upto f 0 = d := by simp [Dm.upto, settleL_nil]
theorem upto_next (d : Dm) (f : Nat → Bool) (k : Nat) (x : Nat × List UInt8) (hx : d.wait[k]? = some x) : d.upto f (k + 1) = if f k then { d.upto f k with on := (d.upto f k).on.set x.1 x.2 } else d.upto f k := by
  have hsnoc : d.wait.take (k + 1) = d.wait.take k ++ [x] := by rw [List.take_add_one, hx]; rfl
  have hlk : (d.wait.take k).length = k := by
    have := (List.getElem?_eq_some_iff.1 hx).1
    simp; omega
  have hset := settleL_snoc f d.on (d.wait.take k) x
  rw [← hsnoc, hlk] at hset
  unfold Dm.upto
  rw [hset]
  split <;> rfl
/-- A write reaches the disk, as a step. -/
theorem put_upto {w : World} {vo vw : Value} {d : Dm} {f : Nat → Bool} {k : Nat} (h : Rf w vo vw (d.upto f k)) (ok : d.ok) (x : Nat × List UInt8) (hx : d.wait[k]? = some x) (hf : f k = true) :
    Calls Tryz.prog 82 #[.agg (rcs d vo vw), .agg #[.int .i64 x.1, .string ⟨x.2.toArray⟩]] w fun e w' => ∃ vo', e = .returned (.agg (rcs d vo' vw)) ∧ Rf w' vo' vw (d.upto f (k + 1)) ∧ Kp (fun _ => False) w w' := by
  have hl : (d.upto f k).on.length = d.on.length := by simp only [Dm.upto, settleL_length]
  have := put_any h x.1 x.2 (by rw [hl]; exact ok.at_ x (List.mem_of_getElem? hx)) (by rw [hl]; exact ok.few)
  rw [upto_next d f k x hx, if_pos hf]
  exact this
/-- The copied disk, and the result's box. -/
theorem start2 (w : World) (r : Array Value) : ∃ W, W = (w.alloc (.cells r 37)).alloc (.cells #[.slice none 0 0, .slice none 0 0, .bool false, .int .i64 0, .string ⟨#[]⟩, .int .u64 0] 37) ∧ Box W w.heap.size 37 r ∧ Box W (w.heap.size + 1) 37 #[.slice none 0 0, .slice none 0 0, .bool false, .int .i64 0, .string ⟨#[]⟩, .int .u64 0] ∧ Kp (fun _ => False) w W := by
  refine ⟨_, rfl, (Box.new w _ _).alloc _, ?_, ((Kp.refl _ w).alloc _).alloc _⟩
  have := Box.new (w.alloc (.cells r 37)) 37 #[.slice none 0 0, .slice none 0 0, .bool false, .int .i64 0, .string ⟨#[]⟩, .int .u64 0]
  rwa [World.size_alloc] at this
/-- The row of the writes that wait is not the copied disk. -/
theorem Rf.apart {w : World} {vo : Value} {d : Dm} {gw n c : Nat} (h : Rf w vo (.slice (some ⟨gw, 0, none⟩) n c) d) (hn : 0 < d.wait.length) : gw < w.heap.size := by
  obtain ⟨_, _, _, hv1, _, h2⟩ := h.wt
  injection hv1 with e1 _ _
  subst e1
  rcases h2 with h2 | ⟨b, cur, e2, hb, _⟩
  · omega
  · injection e2 with e3
    injection e3 with e4
    exact e4 ▸ hb.lt

set_option maxRecDepth 100000 in
set_option maxHeartbeats 4000000 in
theorem goes_any {w : World} {vo vw : Value} {d : Dm} (h : Rf w vo vw d) (ok : d.ok) (l : List UInt8) (hl : l.length ≤ maxLen) :
    Calls Tryz.prog 56 #[.agg (rcs d vo vw), .string ⟨l.toArray⟩] w fun e w' => ∃ vo', e = .returned (.agg (rcs (d.lose l) vo' (.slice none 0 0))) ∧ Rf w' vo' (.slice none 0 0) (d.lose l) ∧ Kp (fun _ => False) w w' := by
  have Hr : Hid (Tryz.f56.results = #[.cell 4 37]) := Lib.hid (by kernel_rfl)
  obtain ⟨_, Aw, cw, hvw, hcw, _⟩ := h.wt
  have hwl := ok.waits
  have H := Lib.hid h
  have OK := Lib.hid ok
  clear h ok
  subst hvw
  obtain ⟨W, hW, hb0, hb1, hkw⟩ := start2 w (rcs d vo (.slice Aw d.wait.length cw))
  have HW := Lib.hid hW
  have B0 := Lib.hid hb0
  have B1 := Lib.hid hb1
  have KW := Lib.hid hkw
  clear hb0 hb1 hkw hW
  go_enter Tryz.func56, Tryz.ntmps56
  go_upto_region 1 with fail
  rw [← HW.out]
  have y0 : W.cell? ⟨w.heap.size, 1, none⟩ = some (.slice Aw d.wait.length cw) := B0.out.cell 1
  go_wp2_with fail
  clear y0
  go_loopw [6] (fun i wr => ∃ (k : Nat) (vk : Value), k ≤ d.wait.length ∧ i = .int .i64 k ∧ Box wr w.heap.size 37 (rcs d vk (.slice Aw d.wait.length cw)) ∧ Box wr (w.heap.size + 1) 37 #[.slice none 0 0, .slice none 0 0, .bool false, .int .i64 0, .string ⟨#[]⟩, .int .u64 0] ∧ Rf wr vk (.slice Aw d.wait.length cw) (d.upto (bitOf l) k) ∧ Kp (fun _ => False) w wr)
    (fun i _ => d.wait.length - (intOf i).toNat)
  case atStart => exact ⟨0, vo, Nat.zero_le _, rfl, B0.out, B1.out, by rw [upto_zero]; exact H.out.still KW.out, KW.out⟩
  case round =>
    obtain ⟨k, vk, hk, rfl, hb0, hb1, hrf, hkw⟩ := hrel
    have BK := Lib.hid hb0
    have BR := Lib.hid hb1
    have RK := Lib.hid hrf
    have HK := Lib.hid hkw
    clear hb0 hb1 hrf hkw
    by_cases hlt : k < d.wait.length
    · obtain ⟨gw, cw', hvg, _, hcell⟩ := RK.out.wt.cell (show 0 < (d.upto (bitOf l) k).wait.length from Nat.lt_of_le_of_lt (Nat.zero_le k) hlt)
      injection hvg with hA hB0 hC
      clear hB0
      subst hA
      subst hC
      have hgw0 : ¬ gw = w.heap.size := by
        have := H.out.apart (by omega)
        omega
      obtain ⟨x, hx⟩ : ∃ x, d.wait[k]? = some x := ⟨_, List.getElem?_eq_getElem hlt⟩
      obtain ⟨p0, p1⟩ := prs_get d.wait k x hx
      have c0 : wr.cell? ⟨gw, k * 2, none⟩ = some (.int .i64 x.1) := hcell _ _ p0
      have c1 : wr.cell? ⟨gw, k * 2 + 1, none⟩ = some (.string ⟨x.2.toArray⟩) := hcell _ _ p1
      have HX := Lib.hid hx
      clear hx hcell p0 p1
      obtain ⟨q, hqe⟩ : ∃ q, q = k / 8 := ⟨_, rfl⟩
      obtain ⟨r, hre⟩ : ∃ r, r = k % 8 := ⟨_, rfl⟩
      have hb : bitOf l k = (decide (q < l.length) && ((l.getD q 0).toNat / 2 ^ r % 2 == 1)) := by rw [bitOf, ← hqe, ← hre]
      have hq : ((k : Int)).tdiv 8 = (q : Int) := by rw [hqe]; exact (Int.ofNat_tdiv k 8).symm
      have hr : ((k : Int)).tmod 8 = (r : Int) := by rw [hre]; exact (Int.ofNat_tmod k 8).symm
      have hr8 : r < 8 := by omega
      have hq8 : q < 1073741824 := by omega
      have hl2 := hl
      unfold maxLen at hl2
      have HB := Lib.hid hb
      clear hb hqe hre
      by_cases hql : q < l.length
      · have hget : l.getD q 0 = l[q] := by simp [hql]
        rw [decide_eq_true hql, Bool.true_and, hget] at HB
        clear hget
        have hx8 : l[q].toNat < 256 := l[q].toNat_lt
        go_upto_region 8 with fail
        obtain ⟨y, hy, hyb⟩ : ∃ y : Nat, (((⟨l.toArray⟩ : ByteArray)[q]'(by simpa [ByteArray.size] using hql)).toNat / 2 ^ r : Int).tmod 2 = (y : Int) ∧ bitOf l k = (y == 1) := by
          refine ⟨l[q].toNat / 2 ^ r % 2, ?_, HB.out⟩
          show (((l[q].toNat : Int)) / 2 ^ r).tmod 2 = _
          rw [show ((l[q].toNat : Int)) / 2 ^ r = ((l[q].toNat / 2 ^ r : Nat) : Int) by simp]
          exact (Int.ofNat_tmod _ 2).symm
        rw [hy]
        clear hy HB hx8
        have HN := Lib.hid (upto_next d (bitOf l) k x HX.out)
        by_cases hy1 : y = 1
        · subst hy1
          have HF := Lib.hid (show bitOf l k = true from hyb)
          clear hyb HN
          go_upto_region 9 with fail
          refine wp_region_held_drew (S := fun v => v.cell? ⟨gw, k * 2, none⟩ = some (.int .i64 x.1) ∧ v.cell? ⟨gw, k * 2 + 1, none⟩ = some (.string ⟨x.2.toArray⟩)) (by kernel_rfl) ⟨c0, c1⟩ (fun hHeld => ?_)
          refine tk 1 (h := ?_)
          refine tk 2 (h := ?_)
          refine tk 3 (h := ?_)
          refine tk 4 (h := ?_)
          refine rd 0 (h := fun K hK => ?_)
          rw [if_pos (by rfl)]
          refine wp_load_mid 37 (.tmp 2) rfl w.heap.size 0 rfl (rcs d vk (.slice (some ⟨gw, 0, none⟩) d.wait.length cw)).toList _ (Box.range' (L := (rcs d vk (.slice (some ⟨gw, 0, none⟩) d.wait.length cw)).toList) BK.out.drew) Tryz.underlying37 rfl infoRef ?_
          refine hK.out _ _ ⟨c0, c1⟩ (fun hHeld0 => ?_)
          clear hK K
          try simp only [Act.put, List.setIfInBounds_toArray, List.set_cons_zero, List.set_cons_succ]
          refine rd 5 (h := fun K hK => ?_)
          go_simp
          refine (put_upto RK.out.drew OK.out x HX.out HF.out).mono ?_
          rintro e y1 ⟨vn, rfl, rn, kn⟩
          have RN := Lib.hid rn
          have KN := Lib.hid ((Kp.refl (fun _ => False) wr).drew.trans kn)
          clear rn kn
          have d0 := (KN.out.cell (p := ⟨gw, k * 2, none⟩) (World.block_lt_of_cell? wr _ c0) (fun h => h)).trans c0
          have d1 := (KN.out.cell (p := ⟨gw, k * 2 + 1, none⟩) (World.block_lt_of_cell? wr _ c1) (fun h => h)).trans c1
          go_wp2_with fail
          refine hK.out _ _ ⟨d0, d1⟩ (fun hHeld5 => ?_)
          clear hK K
          try simp only [Act.put, List.setIfInBounds_toArray, List.set_cons_zero, List.set_cons_succ]
          refine rd 6 (h := fun K hK => ?_)
          rw [if_pos (by rfl)]
          refine dwp_store_box 37 (.tmp 2) (.tmp 36) rfl w.heap.size (rcs d vn (.slice (some ⟨gw, 0, none⟩) d.wait.length cw)).toList rfl rfl (BK.out.kp KN.out (fun h => h)) rfl infoRef (rcs_one _ _ _ (by obtain ⟨_, A, cap, hv, _⟩ := RN.out.on; rw [hv]; rfl) rfl) ?_
          intro y2 hb2 hk2
          have B2 := Lib.hid hb2
          have K2 := Lib.hid hk2
          clear hb2 hk2
          have f0 := (K2.out.cell (p := ⟨gw, k * 2, none⟩) (World.block_lt_of_cell? y1 _ d0) hgw0).trans d0
          have f1 := (K2.out.cell (p := ⟨gw, k * 2 + 1, none⟩) (World.block_lt_of_cell? y1 _ d1) hgw0).trans d1
          refine hK.out _ _ ⟨f0, f1⟩ (fun hHeld6 => ?_)
          clear hK K
          try simp only [Act.put]
          refine wpAnyH_done (by kernel_rfl) ?_ _
          go_wp2_with fail
          go_roundw
          case rel => exact ⟨k + 1, vn, by omega, by go_num, B2.out, (BR.out.kp KN.out (fun h => h)).kp K2.out (fun e => by omega), (RN.out.kp K2.out (fun q cs fr e1 e2 => by
            have hb := BK.out.kp KN.out (fun h => h)
            rcases e1 with e1 | e1
            · exact type_off e1 hb (by decide) e2
            · exact type_off e1 hb (by decide) e2)), (HK.out.trans KN.out).trans_new K2.out (fun q e => .inl (by omega))⟩
          case measure => simp [intOf]; omega
        · have hyf : (y == 1) = false := by simpa using hy1
          rw [hyf] at hyb
          rw [hyb, if_neg (by decide)] at HN
          have HN' := Lib.hid HN.out
          clear HN hyf hyb
          have hy2 : ¬ ((y : Int) = 1) := by omega
          go_wp2_with fail
          go_roundw
          case rel => exact ⟨k + 1, vk, by omega, by go_num, BK.out, BR.out, HN'.out ▸ RK.out, HK.out⟩
          case measure => simp [intOf]; omega
      · have hd : decide (q < l.length) = false := by simpa using hql
        rw [hd, Bool.false_and] at HB
        have HN := Lib.hid (upto_next d (bitOf l) k x HX.out)
        rw [HB.out, if_neg (by decide)] at HN
        have HN' := Lib.hid HN.out
        clear HN hd
        go_wp2_with fail
        go_roundw
        case rel => exact ⟨k + 1, vk, by omega, by go_num, BK.out, BR.out, HN'.out ▸ RK.out, HK.out⟩
        case measure => simp [intOf]; omega
    · obtain rfl : k = d.wait.length := by omega
      have f1 := BK.out.free 1
      have f2 := BK.out.free 2
      have f3 := BK.out.free 3
      have f4 := BK.out.free 4
      have y1 : wr.cell? ⟨w.heap.size, 1, none⟩ = some (.slice Aw d.wait.length cw) := BK.out.cell 1
      have y2 : wr.cell? ⟨w.heap.size, 2, none⟩ = some (.bool (!d.power)) := BK.out.cell 2
      have y3 : wr.cell? ⟨w.heap.size, 3, none⟩ = some (.int .i64 (leftZ d)) := BK.out.cell 3
      have y4 : wr.cell? ⟨w.heap.size, 4, none⟩ = some (.string ⟨d.keep.toArray⟩) := BK.out.cell 4
      go_upto_region 14 with fail
      obtain ⟨D, hD⟩ : ∃ D, D = d.lose l := ⟨_, rfl⟩
      have B3 := ((((BK.out.put 1 (.slice none 0 0)).put 2 (.bool true)).put 3 (.int .i64 (-1))).put 4 (.string ⟨#[]⟩))
      have B4 := (((BR.out.far (p := ⟨w.heap.size, 1, none⟩) (by simp) (.slice none 0 0)).far (p := ⟨w.heap.size, 2, none⟩) (by simp) (.bool true)).far (p := ⟨w.heap.size, 3, none⟩) (by simp) (.int .i64 (-1))).far (p := ⟨w.heap.size, 4, none⟩) (by simp) (.string ⟨#[]⟩)
      have k1 := (((HK.out.setCell (p := ⟨w.heap.size, 1, none⟩) (.inl (Nat.le_refl _)) (.slice none 0 0)).setCell (p := ⟨w.heap.size, 2, none⟩) (.inl (Nat.le_refl _)) (.bool true)).setCell (p := ⟨w.heap.size, 3, none⟩) (.inl (Nat.le_refl _)) (.int .i64 (-1))).setCell (p := ⟨w.heap.size, 4, none⟩) (.inl (Nat.le_refl _)) (.string ⟨#[]⟩)
      have k4 := (((Kp.one wr w.heap.size 1 (.slice none 0 0)).trans (Kp.one _ w.heap.size 2 (.bool true))).trans (Kp.one _ w.heap.size 3 (.int .i64 (-1)))).trans (Kp.one _ w.heap.size 4 (.string ⟨#[]⟩))
      generalize ((((wr.setCell ⟨w.heap.size, 1, none⟩ (.slice none 0 0)).setCell ⟨w.heap.size, 2, none⟩ (.bool true)).setCell ⟨w.heap.size, 3, none⟩ (.int .i64 (-1))).setCell ⟨w.heap.size, 4, none⟩ (.string ⟨#[]⟩)) = W4 at *
      have hD3 : ((((rcs d vk (.slice Aw d.wait.length cw)).setIfInBounds 1 (.slice none 0 0)).setIfInBounds 2 (.bool true)).setIfInBounds 3 (.int .i64 (-1))).setIfInBounds 4 (.string ⟨#[]⟩) = rcs D vk (.slice none 0 0) := by
        rw [hD]
        simp [rcs, Dm.lose, leftZ]
      rw [hD3] at B3
      have hl4 : settleL (bitOf l) d.on (d.wait.take d.wait.length) = D.on := by rw [hD, List.take_length]; rfl
      have hR := RK.out.on.kp k4 (fun q cs fr e1 e2 => type_off e1 BK.out (by decide) e2)
      have hR2 : RdR W4 9 1 vk D.on.length (strs D.on) := by
        rw [← hl4]
        exact hR
      have h4 : Rf W4 vk (.slice none 0 0) D := ⟨hR2, by
        have e : D.wait = [] := by rw [hD]; rfl
        rw [e]
        exact RdR.nil _ _ _⟩
      have ho6 := h4.c1.1
      have HD := Lib.hid hD
      have B3' := Lib.hid B3
      have B4' := Lib.hid B4
      have K1' := Lib.hid k1
      have H4' := Lib.hid h4
      clear hD hD3 hl4 hR hR2 h4 B3 B4 k1 k4 f1 f2 f3 f4 y1 y2 y3 y4
      go_wp2_with (first | (refine wpList_load_mid rfl 37 (.tmp 2) rfl w.heap.size 0 rfl (rcs D vk (.slice none 0 0)).toList _ (Box.range' (L := (rcs D vk (.slice none 0 0)).toList) B3'.out) Tryz.underlying37 rfl infoRef ?_) | (refine dwpList_store_box rfl 37 (.tmp 4) (.tmp 41) rfl (w.heap.size + 1) (rcs D vk (.slice none 0 0)).toList rfl rfl B4'.out rfl infoRef (rcs_one _ _ _ ho6 rfl) ?_; intro w5 hb5 hk5) | fail)
      have k2 := K1'.out.trans_new hk5 (fun k e => .inl (by omega))
      have h5 : Rf w5 vk (.slice none 0 0) D := H4'.out.kp hk5 (fun q cs fr e1 e2 => by
        rcases e1 with e1 | e1
        · exact type_off e1 B4'.out (by decide) e2
        · exact type_off e1 B4'.out (by decide) e2)
      rw [← HD.out]
      refine bodyPost_ret (v := .agg (rcs D vk (.slice none 0 0))) ?_ rfl ⟨vk, rfl, h5, k2⟩
      exact results_cell_row Hr.out _ _ (w.heap.size + 1) 37 _ (0, 0) _ rfl hb5 Tryz.underlying37 rfl infoRef
end Go.Proofs.YtfcljcikajaedaaGreatDoor
