/- The law of pages, part 6 of 55: DkWrite DkAll. -/
import Derived.Test.YtepaeliamhjgiaaGreatDoorMu1
import Derived.Test.YtepaeliamhjgiaaGreatDoorMu5
set_option maxHeartbeats 16000000
set_option maxRecDepth 100000
namespace Go.Proofs.YtepaeliamhjgiaaGreatDoor
open Go.RowKit Go.Maps
theorem wrInfo : ∃ i z, Tryz.prog.info? 158 = some i /\ i.zero = some z /\ i.size = 513 /\ i.bytes = 520 /\ z.cells.size = 513 := by
 have h : (match Tryz.prog.info? 158 with | some i => (match i.zero with | some z => i.size == 513 && i.bytes == 520 && z.cells.size == 513 | none => false) | none => false) = true := by kernel_rfl
 cases hi : Tryz.prog.info? 158 with
 |none => rw [hi] at h; cases h
 |some i =>
  rw [hi] at h
  dsimp only at h
  cases hz : i.zero with
  |none => rw [hz] at h; cases h
  |some z =>
   rw [hz] at h
   simp only [Bool.and_eq_true, beq_iff_eq] at h
   exact ⟨i, z, rfl, hz, h.1.1, h.1.2, h.2⟩
theorem wpList_note {w : World} {ops : Array Oper} {rest : List Oper} {o : Oper} {a : Act} {Q : Exit -> Act -> World -> Prop} (hg : o.guard = none) (m x v : Operand)
  (hop : o.op = Op.mapUpdate 92 m x v) (g : Nat) (l : List (Nat × List UInt8)) (hl : l.length < 1073741824) (hm : a.eval m = .map (some g)) (h : Nm w g l) (at_ : Nat) (hat : at_ < 9223372036854775808) (hx : a.eval x = .int .i64 at_) (hv : a.eval v = .int .i64 l.length) (b : List UInt8)
  (hK : ∀ w', Nm w' g (l ++ [(at_, b)]) -> Kp (fun k => k = g) w w' -> wpList Tryz.prog ops Q rest (a.put o.dst undef) w') :
  wpList Tryz.prog ops Q (o :: rest) a w := by
 obtain ⟨n, D, ho, hn, hD⟩ := h
 refine wpList_mapUpdate_own w hg m x v _ hop 3 3 keyedI Tryz.underlying92 _ g n D hm ho (by simp only [maxLen]; omega) _ _ (.int .i64 at_) hx hv (keyOf_int_mk Tryz.underlying3 (wf_i64 at_ hat)) _ _ (plainElem_int Tryz.underlying3 (wf_i64 l.length (by omega))) ?_
 intro w' ho' hgr
 refine hK w' ⟨n + 1, _, ho', by simp; omega, fun a => ?_⟩ ⟨hgr.os, hgr.tape, hgr.output, hgr.size, fun k hk hs => hgr.block k hk (by simpa using hs)⟩
 have hM := ho.isMap
 rw [lastOf_snoc]
 dsimp only
 by_cases e : at_ = a
 ·subst e
  rw [if_pos rfl]
  refine ⟨has_put_same hM (show WideAt.IsKeyLit (.int .i64 (at_ : Int)) from trivial) _, fun i hi => ?_⟩
  cases hi
  exact atKey_put_same hM (show WideAt.IsKeyLit (.int .i64 (at_ : Int)) from trivial) _ _
 ·rw [if_neg e]
  have hne : (Lit.int .i64 (a : Int)) ≠ .int .i64 (at_ : Int) := by
   intro h
   injection h with _ h
   omega
  rw [has_put_other hne, atKey_put_other hne]
  exact hD a
theorem bytes_off {w : World} {b : Nat} {vs vw : Value} {gm : Nat} {d : Dm} (h : Dk w b vs vw gm d) (bb bo : Nat) (l : List UInt8) (hl : 0 < l.length) (hr : w.rangeAt bb bo (bcs l)) : bb ≠ b /\ bb ≠ gm := by
 obtain ⟨u, hu⟩ : ∃ u, l[0]? = some u := ⟨_, List.getElem?_eq_getElem hl⟩
 have hc := hr 0 (.int .u8 u.toNat) (by rw [bcs_get, hu]; rfl)
 obtain ⟨gs, cap, rfl, _⟩ := h.st_form
 obtain ⟨A, capw, rfl, _⟩ := h.wt_form
 constructor
 ·rintro rfl
  rw [h.box.cell] at hc
  rcases (show bo + 0 = 0 \/ bo + 0 = 1 \/ bo + 0 = 2 \/ bo + 0 = 3 \/ bo + 0 = 4 \/ bo + 0 = 5 \/ bo + 0 = 6 \/ bo + 0 = 7 \/ 8 <= bo + 0 by omega) with e | e | e | e | e | e | e | e | e
  all_goals first
   |(rw [e] at hc; simp [dcs] at hc)
   |(rw [Array.getElem?_eq_none (by simpa [dcs] using e)] at hc; cases hc)
 ·rintro rfl
  obtain ⟨n, D, ⟨es, clock, hm, _⟩, _⟩ := h.nm
  simp [World.cell?, hm] at hc
theorem range_alloc {w : World} {b o : Nat} {cs : List Value} (h : w.rangeAt b o cs) (x : Obj) : (w.alloc x).rangeAt b o cs := fun j v hj => (World.cell?_alloc_lt w x ⟨b, o + j, none⟩ (World.block_lt_of_cell? w _ (h j v hj))).trans (h j v hj)
theorem range_grown {w w' : World} {b o : Nat} {cs : List Value} {row : Option Nat} (h : w.rangeAt b o cs) (hg : w.grownBy w' row) (hn : some b ≠ row) : w'.rangeAt b o cs := fun j v hj => hg.cell (a := ⟨b, o + j, none⟩) (h j v hj) hn
theorem range_set {w : World} {b o q i : Nat} {cs : List Value} (hn : b ≠ q) (h : w.rangeAt b o cs) (x : Value) : (w.setCell ⟨q, i, none⟩ x).rangeAt b o cs := fun j v hj =>
 ((Kp.one w q i x).cell (p := ⟨b, o + j, none⟩) (World.block_lt_of_cell? w _ (h j v hj)) hn).trans (h j v hj)
theorem fold_cells (cs : List Value) : ∀ (k : Nat) (A : Array Value), k + cs.length <= A.size -> (cs.zipIdx k).foldl (fun B x => B.setIfInBounds x.snd x.fst) A = (A.toList.take k ++ cs ++ A.toList.drop (k + cs.length)).toArray := by
 induction cs with
 |nil => intro k A _; simp
 |cons v r ih =>
  intro k A h
  simp only [List.length_cons] at h
  rw [List.zipIdx_cons, List.foldl_cons, ih (k + 1) _ (by simp; omega)]
  congr 1
  simp only [Array.toList_setIfInBounds, List.length_cons]
  rw [List.drop_set_of_lt (by omega), List.take_set, show k + 1 + r.length = k + (r.length + 1) by omega]
  have : (A.toList.take (k + 1)).set k v = A.toList.take k ++ [v] := by
   rw [List.take_succ_eq_append_getElem (by simp; omega), List.set_append_right _ _ (by simp; omega)]
   simp [Nat.min_eq_left (show k <= A.size by omega)]
  rw [this]
  simp
theorem fold_all (cs : List Value) (A : Array Value) (h : A.size = cs.length) : cs.zipIdx.foldl (fun B x => B.setIfInBounds x.snd x.fst) A = cs.toArray := by
 have := fold_cells cs 0 A (by omega)
 rw [this]
 simp [List.drop_eq_nil_of_le (show A.toList.length <= cs.length by simp; omega)]
theorem fold_write (A : Array Value) (hA : A.size = 513) (l : List UInt8) (hl : l.length = 512) (v : Value) : ∃ B, (bcs l).zipIdx.foldl (fun B x => B.setIfInBounds x.snd x.fst) A = B /\ B.size = 513 /\ B.setIfInBounds 512 v = (bcs l ++ [v]).toArray := by
 have hb : (bcs l).length = 512 := by rw [bcs_length, hl]
 have := fold_cells (bcs l) 0 A (by omega)
 refine ⟨_, this, by simp [hb]; omega, ?_⟩
 obtain ⟨x, hx⟩ : ∃ x, A.toList.drop 512 = [x] := by
  have h1 : (A.toList.drop 512).length = 1 := by simp; omega
  exact List.length_eq_one_iff.1 h1
 simp only [List.take_zero, List.nil_append, Nat.zero_add, hb, hx, List.setIfInBounds_toArray]
 rw [List.set_append_right _ _ (by omega), hb]
 simp
theorem fold_slice (zc : Array Value) (R : Array Nat) (hR : Array.range 513 = R) (cs : List Value) (hl : cs.length = 513) : cs.zipIdx.foldl (fun B x => B.setIfInBounds x.snd x.fst) (Array.map (fun x => zc[x % 513]!) R) = cs.toArray :=
 fold_all cs _ (by rw [<- hR, Array.size_map, Array.size_range, hl])
def Dm.push (d : Dm) (a : Nat) (l : List UInt8) : Dm := { d with wait := d.wait ++ [(a, l)] }
section
variable {w : World} {b : Nat} {vs vw : Value} {gm : Nat} {d : Dm} {F : Nat -> Prop}
theorem write_pre (h : Dk w b vs vw gm d) (a : Int) (Ab : Option Addr) (nb cb : Nat) :
  Dk (((w.alloc (.cells #[.int .i64 a] 3)).alloc (.cells #[.slice Ab nb cb] 50)).alloc (.cells #[.func (.func 79) #[] #[], .func (.func 154) #[] #[.pointer (some ⟨w.heap.size, 0, none⟩)], .func (.func 169) #[] #[.pointer (some ⟨w.heap.size + 1, 0, none⟩)], .func (.func 98) #[] #[]] 116)) b vs vw gm d /\ (((w.alloc (.cells #[.int .i64 a] 3)).alloc (.cells #[.slice Ab nb cb] 50)).alloc (.cells #[.func (.func 79) #[] #[], .func (.func 154) #[] #[.pointer (some ⟨w.heap.size, 0, none⟩)], .func (.func 169) #[] #[.pointer (some ⟨w.heap.size + 1, 0, none⟩)], .func (.func 98) #[] #[]] 116)).cell? ⟨w.heap.size, 0, none⟩ = some (.int .i64 a) /\ (((w.alloc (.cells #[.int .i64 a] 3)).alloc (.cells #[.slice Ab nb cb] 50)).alloc (.cells #[.func (.func 79) #[] #[], .func (.func 154) #[] #[.pointer (some ⟨w.heap.size, 0, none⟩)], .func (.func 169) #[] #[.pointer (some ⟨w.heap.size + 1, 0, none⟩)], .func (.func 98) #[] #[]] 116)).cell? ⟨w.heap.size + 1, 0, none⟩ = some (.slice Ab nb cb) /\ Box (((w.alloc (.cells #[.int .i64 a] 3)).alloc (.cells #[.slice Ab nb cb] 50)).alloc (.cells #[.func (.func 79) #[] #[], .func (.func 154) #[] #[.pointer (some ⟨w.heap.size, 0, none⟩)], .func (.func 169) #[] #[.pointer (some ⟨w.heap.size + 1, 0, none⟩)], .func (.func 98) #[] #[]] 116)) (w.heap.size + 1 + 1) 116 #[.func (.func 79) #[] #[], .func (.func 154) #[] #[.pointer (some ⟨w.heap.size, 0, none⟩)], .func (.func 169) #[] #[.pointer (some ⟨w.heap.size + 1, 0, none⟩)], .func (.func 98) #[] #[]] /\ Kp (fun _ => False) w (((w.alloc (.cells #[.int .i64 a] 3)).alloc (.cells #[.slice Ab nb cb] 50)).alloc (.cells #[.func (.func 79) #[] #[], .func (.func 154) #[] #[.pointer (some ⟨w.heap.size, 0, none⟩)], .func (.func 169) #[] #[.pointer (some ⟨w.heap.size + 1, 0, none⟩)], .func (.func 98) #[] #[]] 116)) := by
 have hba := ((Box.new w 3 #[.int .i64 a]).alloc (.cells #[.slice Ab nb cb] 50)).alloc (.cells #[.func (.func 79) #[] #[], .func (.func 154) #[] #[.pointer (some ⟨w.heap.size, 0, none⟩)], .func (.func 169) #[] #[.pointer (some ⟨w.heap.size + 1, 0, none⟩)], .func (.func 98) #[] #[]] 116)
 have hbb := (Box.new (w.alloc (.cells #[.int .i64 a] 3)) 50 #[.slice Ab nb cb]).alloc (.cells #[.func (.func 79) #[] #[], .func (.func 154) #[] #[.pointer (some ⟨w.heap.size, 0, none⟩)], .func (.func 169) #[] #[.pointer (some ⟨w.heap.size + 1, 0, none⟩)], .func (.func 98) #[] #[]] 116)
 rw [World.size_alloc] at hbb
 have hbn := Box.new ((w.alloc (.cells #[.int .i64 a] 3)).alloc (.cells #[.slice Ab nb cb] 50)) 116 #[.func (.func 79) #[] #[], .func (.func 154) #[] #[.pointer (some ⟨w.heap.size, 0, none⟩)], .func (.func 169) #[] #[.pointer (some ⟨w.heap.size + 1, 0, none⟩)], .func (.func 98) #[] #[]]
 rw [World.size_alloc, World.size_alloc] at hbn
 exact ⟨((h.alloc _).alloc _).alloc _, hba.cell 0, hbb.cell 0, hbn, (((Kp.refl _ w).alloc _).alloc _).alloc _⟩
theorem waitCells_snoc (l : List (Nat × List UInt8)) (x : Nat × List UInt8) : waitCells (l ++ [x]) = waitCells l ++ wrCells x := by simp [waitCells, wrCells]
theorem ok_push {d : Dm} (h : d.ok) (a : Nat) (l : List UInt8) (ha : a < d.on.length) (hl : l.length = 512) (hw : d.wait.length + 1 < 1073741824) : (d.push a l).ok :=
 ⟨h.few, h.some, h.each, fun x hx => by
  rcases List.mem_append.1 hx with hx | hx
  ·exact h.at_ x hx
  ·obtain rfl : x = (a, l) := by simpa using hx
   exact ha, fun x hx => by
  rcases List.mem_append.1 hx with hx | hx
  ·exact h.long x hx
  ·obtain rfl : x = (a, l) := by simpa using hx
   exact hl, by simp [Dm.push]; omega, h.left_, h.acts_, h.keep_⟩
theorem write_end {w1 w2 w4 : World} {g' cap' a : Nat} {l : List UInt8} {o : Obj} (h : Dk w1 b vs vw gm d) (hF : ∀ k, w1.heap.size <= k -> F k) (hS : ∀ k, Ft b vs vw gm k -> F k) (ha : a < d.on.length) (hl : l.length = 512) (hw : d.wait.length + 1 < 1073741824)
  (hbx : Box w2 b 97 (dcs d vs vw gm)) (hst : w2.ownsRow 0 156 512 vs d.on.length (onCells d.on)) (hnm : Nm w2 gm (d.wait ++ [(a, l)])) (hsz : w1.heap.size <= w2.heap.size)
  (hg : (w2.drew.alloc o).grownBy w4 vw.ownBlock) (hat : vw.ownBlock = some g' \/ g' = w2.heap.size + 1)
  (ho : w4.ownsRow 0 158 513 (.slice (some ⟨g', 0, none⟩) (d.wait.length + 1) cap') (d.wait.length + 1) (waitCells d.wait ++ wrCells (a, l))) :
  Dsk F (w4.setCell ⟨b, 1, none⟩ (.slice (some ⟨g', 0, none⟩) (d.wait.length + 1) cap')) b (d.push a l) /\ Kp F w2 (w4.setCell ⟨b, 1, none⟩ (.slice (some ⟨g', 0, none⟩) (d.wait.length + 1) cap')) := by
 have ap := h.apart
 have k4 : Kp (fun k => vw.ownBlock = some k) w2 w4 := (((Kp.refl _ w2).drew.alloc o)).grown hg (fun k e => .inr e)
 have k5 := Kp.one w4 b 1 (.slice (some ⟨g', 0, none⟩) (d.wait.length + 1) cap')
 have hblt := h.box.lt
 have hgb : g' ≠ b := by
  rcases hat with e | e
  ·rintro rfl; exact ap.2.1 e
  ·omega
 refine ⟨⟨vs, .slice (some ⟨g', 0, none⟩) (d.wait.length + 1) cap', gm, ⟨ok_push h.ok a l ha hl hw, ?_, ?_, ?_, ?_⟩, ?_⟩, ?_⟩
 ·exact (hbx.kp k4 ap.2.1).put 1 _
 ·exact down_kp (down_kp hst k4 (fun k e e2 => ap.2.2.2.2.2 k e e2)) k5 (fun k e e2 => ap.1 (by rw [e, show k = b from e2]))
 ·have e1 : (d.push a l).wait.length = d.wait.length + 1 := by simp [Dm.push]
  have e2 : waitCells (d.push a l).wait = waitCells d.wait ++ wrCells (a, l) := waitCells_snoc _ _
  rw [e1, e2]
  exact down_kp ho k5 (fun k e e2 => hgb (by simp [Value.ownBlock] at e; exact e.trans e2))
 ·exact (hnm.kp k4 ap.2.2.2.2.1).kp k5 ap.2.2.1
 ·rintro k (e | e | e | e)
  ·exact hS k (.inl e)
  ·exact hS k (.inr (.inl e))
  ·simp [Value.ownBlock] at e
   rw [<- e]
   rcases hat with e2 | e2
   ·exact hS g' (.inr (.inr (.inl e2)))
   ·exact hF g' (by omega)
  ·exact hS k (.inr (.inr (.inr e)))
 ·exact (k4.mono fun k _ e => hS k (.inr (.inr (.inl e)))).setCell (.inr (hS b (.inl rfl))) _
theorem write_dead (hD : Dsk F w b d) (a : Int) (Ab : Option Addr) (nb cb : Nat) (hp : d.power = false) :
  Calls Tryz.prog 108 #[.pointer (some ⟨b, 0, none⟩), .int .i64 a, .slice Ab nb cb] w fun e w' => e = .returned (.int .i64 4) /\ Kp (fun _ => False) w w' := by
 obtain ⟨vs, vw, gm, h, hsub⟩ := hD
 obtain ⟨h2, ca, cb', hbn, ka⟩ := write_pre h a Ab nb cb
 have kk := ask_psfa_1 h2 a w.heap.size ca Ab nb cb (w.heap.size + 1) cb' (w.heap.size + 1 + 1) 4 (hbn.cell 0) (hbn.cell 1) (hbn.cell 2) (hbn.cell 3) hp
 have HS := hHd hsub
 have KA := hHd ka
 have H2 := hHd h2
 clear hp h2 ca cb' hbn ka h hsub
 go_enter Tryz.func108, Tryz.ntmps108
 go_wp2_with fail
 refine (sectorIs_any _ _).mono ?_
 rintro e w1 ⟨rfl, rfl⟩
 go_wp2_with fail
 refine (bytesFill_any _ _ _ _).mono ?_
 rintro e w1 ⟨rfl, rfl⟩
 go_wp2_with fail
 refine kk.mono ?_
 rintro e w1 ⟨rfl, rfl⟩
 clear kk
 go_wp2_with fail
 go_ret
 exact ⟨rfl, KA.out⟩
theorem write_arg1 (hD : Dsk F w b d) (a : Int) (Ab : Option Addr) (nb cb : Nat) (hp : d.power = true) (hs : secB d a = false) :
  Calls Tryz.prog 108 #[.pointer (some ⟨b, 0, none⟩), .int .i64 a, .slice Ab nb cb] w fun e w' => e = .returned (.int .i64 2) /\ Kp (fun _ => False) w w' := by
 obtain ⟨vs, vw, gm, h, hsub⟩ := hD
 obtain ⟨h2, ca, cb', hbn, ka⟩ := write_pre h a Ab nb cb
 have kk := ask_psfa_01 h2 a w.heap.size ca Ab nb cb (w.heap.size + 1) cb' (w.heap.size + 1 + 1) 4 (hbn.cell 0) (hbn.cell 1) (hbn.cell 2) (hbn.cell 3) hp hs
 have HS := hHd hsub
 have KA := hHd ka
 have H2 := hHd h2
 clear hp hs h2 ca cb' hbn ka h hsub
 go_enter Tryz.func108, Tryz.ntmps108
 go_wp2_with fail
 refine (sectorIs_any _ _).mono ?_
 rintro e w1 ⟨rfl, rfl⟩
 go_wp2_with fail
 refine (bytesFill_any _ _ _ _).mono ?_
 rintro e w1 ⟨rfl, rfl⟩
 go_wp2_with fail
 refine kk.mono ?_
 rintro e w1 ⟨rfl, n, rfl⟩
 clear kk
 go_wp2_with fail
 go_ret
 exact ⟨rfl, KA.out.drewN n⟩
theorem write_arg2 (hD : Dsk F w b d) (a : Int) (Ab : Option Addr) (nb cb : Nat) (hp : d.power = true) (hs : secB d a = true) (hf : ((nb : Int) == 512) = false) :
  Calls Tryz.prog 108 #[.pointer (some ⟨b, 0, none⟩), .int .i64 a, .slice Ab nb cb] w fun e w' => e = .returned (.int .i64 2) /\ Kp (fun _ => False) w w' := by
 obtain ⟨vs, vw, gm, h, hsub⟩ := hD
 obtain ⟨h2, ca, cb', hbn, ka⟩ := write_pre h a Ab nb cb
 have kk := ask_psfa_001 h2 a w.heap.size ca Ab nb cb (w.heap.size + 1) cb' (w.heap.size + 1 + 1) 4 (hbn.cell 0) (hbn.cell 1) (hbn.cell 2) (hbn.cell 3) hp hs hf
 have HS := hHd hsub
 have KA := hHd ka
 have H2 := hHd h2
 clear hp hs hf h2 ca cb' hbn ka h hsub
 go_enter Tryz.func108, Tryz.ntmps108
 go_wp2_with fail
 refine (sectorIs_any _ _).mono ?_
 rintro e w1 ⟨rfl, rfl⟩
 go_wp2_with fail
 refine (bytesFill_any _ _ _ _).mono ?_
 rintro e w1 ⟨rfl, rfl⟩
 go_wp2_with fail
 refine kk.mono ?_
 rintro e w1 ⟨rfl, n, rfl⟩
 clear kk
 go_wp2_with fail
 go_ret
 exact ⟨rfl, KA.out.drewN n⟩
theorem write_out (hD : Dsk F w b d) (a : Int) (Ab : Option Addr) (nb cb : Nat) (hp : d.power = true) (hs : secB d a = true) (hf : ((nb : Int) == 512) = true) (ho : d.out = true) :
  Calls Tryz.prog 108 #[.pointer (some ⟨b, 0, none⟩), .int .i64 a, .slice Ab nb cb] w fun e w' => e = .returned (.int .i64 4) /\ Dsk F w' b (d.lose d.keep) /\ Kp F w w' := by
 obtain ⟨vs, vw, gm, h, hsub⟩ := hD
 obtain ⟨h2, ca, cb', hbn, ka⟩ := write_pre h a Ab nb cb
 have kk := ask_psfa_0001 h2 a w.heap.size ca Ab nb cb (w.heap.size + 1) cb' (w.heap.size + 1 + 1) 4 (hbn.cell 0) (hbn.cell 1) (hbn.cell 2) (hbn.cell 3) hp hs hf ho
 have HS := hHd hsub
 have KA := hHd ka
 have H2 := hHd h2
 clear hp hs hf ho h2 ca cb' hbn ka h hsub
 go_enter Tryz.func108, Tryz.ntmps108
 go_wp2_with fail
 refine (sectorIs_any _ _).mono ?_
 rintro e w1 ⟨rfl, rfl⟩
 go_wp2_with fail
 refine (bytesFill_any _ _ _ _).mono ?_
 rintro e w1 ⟨rfl, rfl⟩
 go_wp2_with fail
 refine kk.mono ?_
 rintro e w1 ⟨rfl, h3, k3⟩
 have H3 := hHd h3
 have K3 := hHd k3
 clear h3 k3
 clear kk
 go_wp2_with fail
 go_ret
 exact ⟨rfl, ⟨vs, _, gm, H3.out, sub_lose HS.out⟩, KA.out.of_false.trans (K3.out.mono fun k _ e => sub_tn HS.out k e)⟩
theorem write_ok (hF : ∀ k, w.heap.size <= k -> F k) (hD : Dsk F w b d) (a : Nat) (l : List UInt8) (bb bo cb : Nat) (hp : d.power = true) (hs : a < d.on.length) (hl : l.length = 512) (ho : d.out = false)
  (hr : w.rangeAt bb bo (bcs l)) (hbt : ∀ cs fr, w.heap[bb]? ≠ some (.cells cs 158 fr)) (hw : d.wait.length + 1 < 1073741824) :
  Calls Tryz.prog 108 #[.pointer (some ⟨b, 0, none⟩), .int .i64 a, .slice (some ⟨bb, bo, none⟩) 512 cb] w fun e w' => e = .returned (.int .i64 0) /\ Dsk F w' b (d.act.push a l) /\ Kp F w w' := by
 obtain ⟨vs, vw, gm, h, hsub⟩ := hD
 obtain ⟨h2, ca, cb', hbn, ka⟩ := write_pre h a (some ⟨bb, bo, none⟩) 512 cb
 have kk := ask_psfa_0000 h2 a w.heap.size ca (some ⟨bb, bo, none⟩) 512 cb (w.heap.size + 1) cb' (w.heap.size + 1 + 1) 4 (hbn.cell 0) (hbn.cell 1) (hbn.cell 2) (hbn.cell 3) hp (by simp [secB]; omega) (by decide) ho
 have hfew := h.ok.few
 have HS := hHd hsub
 have KA := hHd ka
 have H2 := hHd h2
 have HR := hHd hr
 have HL := hHd hl
 have HF := hHd hF
 have HH := hHd h
 clear hp ho h2 ca cb' hbn ka h hsub hr hl hF
 go_enter Tryz.func108, Tryz.ntmps108
 go_wp2_with fail
 refine (sectorIs_any _ _).mono ?_
 rintro e w1 ⟨rfl, rfl⟩
 go_wp2_with fail
 refine (bytesFill_any _ _ _ _).mono ?_
 rintro e w1 ⟨rfl, rfl⟩
 go_wp2_with fail
 refine kk.mono ?_
 rintro e w1 ⟨rfl, h3, k3⟩
 have K3 := hHd (KA.out.of_false.trans (k3.mono fun k _ e => HS.out k (.inl e)))
 have hnb : ∀ k, Ft b vs vw gm k -> k < w.heap.size := fun k hk => HH.out.lt k hk
 have H3 := hHd h3
 have KB := hHd k3
 clear kk h3 k3
 go_wp2_with fail
 have hr3 : w1.rangeAt bb bo (bcs l) := fun j v hj => by
  have hc := HR.out j v hj
  have hlt := World.block_lt_of_cell? w _ hc
  have hc2 := (KA.out.cell (p := ⟨bb, bo + j, none⟩) hlt (fun h => h)).trans hc
  have hne := (bytes_off HH.out bb bo l (by rw [HL.out]; decide) HR.out).1
  exact (KB.out.cell (p := ⟨bb, bo + j, none⟩) (World.block_lt_of_cell? _ _ hc2) hne).trans hc2
 have hnw : vw.ownBlock ≠ some bb := fun e => by
  rcases HH.out.wt.2 with ⟨e0, _⟩ | ⟨g', cap, cur, e0, _, hh, _⟩
  ·rw [e0] at e; simp [Value.ownBlock] at e
  ·rw [e0] at e
   simp [Value.ownBlock] at e
   subst e
   exact hbt _ _ hh
 have HNW := hHd hnw
 clear hbt hnw
 have HR3 := hHd hr3
 have hoff := bytes_off H3.out bb bo l (by rw [HL.out]; decide) hr3
 have HOFF := hHd hoff
 have hsz := KA.out.size
 have hsz2 := KB.out.size
 have HSZ : Hid (w.heap.size <= w1.heap.size) := hHd (Nat.le_trans hsz hsz2)
 have HNB := hHd hnb
 clear hr3 hoff KA KB H2 hsz hsz2 hnb HR
 obtain ⟨gs, caps, rfl, _, _⟩ := H3.out.st_form
 obtain ⟨aw, capw, hvw, hcw⟩ := H3.out.wt_form
 have e1 := H3.out.c1
 rw [hvw] at e1
 have e2 := H3.out.c2
 have hwl : d.act.wait.length < 1073741824 := by show d.wait.length < _; omega
 go_wp2_with fail
 refine wp_region_still_tail 10 (by kernel_rfl) (by kernel_rfl) ?_
 simp only [List.take_succ_cons, List.take_zero, List.drop_succ_cons, List.drop_zero]
 change wpStill _ _ w1.drew _ _ _
 repeat still_step
 refine wpStill_nil ?_
 change wpList _ _ _ _ _ w1.drew
 refine wpList_note rfl _ _ _ rfl gm d.act.wait hwl rfl (H3.out.nm : Nm w1.drew gm d.act.wait) a (by omega) rfl rfl l ?_
 intro w2 hn2 hk2
 have ap := H3.out.apart
 have k2 : Kp (fun k => k = gm) w1 w2 := (Kp.refl _ w1).drew.trans hk2
 have e1' : w2.cell? ⟨b, 1, none⟩ = some (.slice aw d.act.wait.length capw) := (k2.cell (p := ⟨b, 1, none⟩) H3.out.box.lt (fun e => ap.2.2.1 e.symm)).trans e1
 have hr2 : w2.rangeAt bb bo (bcs l) := fun j v hj => (k2.cell (p := ⟨bb, bo + j, none⟩) (World.block_lt_of_cell? _ _ (HR3.out j v hj)) HOFF.out.2).trans (HR3.out j v hj)
 have hwt := down_kp H3.out.wt k2 (fun k e e' => ap.2.2.2.2.1 (by rw [e, show k = gm from e']))
 rw [hvw] at hwt
 have hst := down_kp H3.out.st k2 (fun k e e' => ap.2.2.2.1 (by rw [e, show k = gm from e']))
 have hbx := H3.out.box.kp k2 (fun e => ap.2.2.1 e.symm)
 have hfr := hbx.free 1
 have harr : ∀ W : World, (Instr.arrayAt 156 (.slice (some ⟨bb, bo, none⟩) 512 cb)).run Tryz.prog W = .ok (.pointer (some ⟨bb, bo, none⟩)) W := fun W => by
  simp [Instr.arrayAt, run_underlying Tryz.underlying156]
 obtain ⟨iw, zw, i1, i2, i3, i4, i5⟩ := wrInfo
 have HBN := hHd ap.2.1
 have K2 := hHd (K3.out.trans (k2.mono fun k _ e => HS.out k (.inr (.inr (.inr e)))))
 have HN2 := hHd hn2
 have HWT := hHd hwt
 have HST := hHd hst
 have HBX := hHd hbx
 have HR2 := hHd hr2
 have HV := hHd hvw
 have hblt : b < w2.heap.size := hbx.lt
 have HK2 := hHd k2.size
 clear hn2 hk2 k2 hwt hst hbx hr2 hvw ap e1 e2
 go_wp2_with fail
 obtain ⟨zc, zc1, zc2, zc3, zc4⟩ := zeroWr
 obtain ⟨fb, fb1, fb2, fb3⟩ := fold_write zc zc2 l HL.out (.int .i64 a)
 have hlen : (bcs l).length = 512 := by rw [bcs_length, HL.out]
 have hwc : bcs l ++ [.int .i64 a] = wrCells (a, l) := rfl
 rw [hwc] at fb3
 clear hwc
 obtain ⟨R, hR⟩ : ∃ R, Array.range 513 = R := ⟨_, rfl⟩
 have hfs := fold_slice zc R hR (wrCells (a, l)) (wrCells_length _ HL.out)
 have hlw := wrCells_length (a, l) HL.out
 have hu := Tryz.underlying156
 have hi : (Tryz.prog.info? 156).map (·.size) = some (bcs l).length := by rw [bcs_length, HL.out]; exact infoSec
 refine wp_region_held_drew (S := fun v => v.rangeAt bb bo (bcs l)) (by kernel_rfl) HR2.out (fun hHeld => ?_)
 refine tk 0 (h := ?_)
 refine tk 1 (h := ?_)
 refine tk 2 (h := ?_)
 refine tk 3 (h := ?_)
 refine tk 5 (h := ?_)
 refine tk 6 (h := ?_)
 refine wpAnyH_take (i := 7) (oi := { dst := some 35, op := Op.load 156 (Operand.tmp 34), type := 156, pos := "disk.go:69", after := #[{ on := 6, ground := Ground.data }], guard := none }) (v := _) rfl (by kernel_rfl) (by kernel_rfl) (by kernel_rfl) (fun _ _ _ h => h) (yieldsIf_load_mid (by rfl) _ _ rfl bb bo rfl (bcs l) _ (fun _ h => h) hu rfl hi) (by assumption) ?_
 try simp only [Act.put, sIa, sI0, sI1]
 refine tk 8 (h := ?_)
 refine tk 9 (h := ?_)
 refine wpAnyH_ready (rs := [4, 10]) (by kernel_rfl) (by simp) ?_
 have e1a : ((w2.drew).alloc (.cells (wrCells (a, l)).toArray 158)).cell? ⟨b, 1, none⟩ = some (.slice aw d.act.wait.length capw) := (World.cell?_alloc_lt w2.drew _ ⟨b, 1, none⟩ hblt).trans e1'
 refine AllReadyH.cons (o := { dst := some 32, op := Op.load 93 (Operand.tmp 31), type := 93, pos := "disk.go:69", after := #[{ on := 3, ground := Ground.data }], guard := none }) rfl (fun K hK => ?_) (AllReadyH.cons (o := { dst := some 38, op := Op.buildSlice 93 1 #[(0, Operand.tmp 37)], type := 93, pos := "disk.go:69", after := #[{ on := 9, ground := Ground.data }], guard := none }) rfl (fun K hK => ?_) AllReadyH.nil)
 ·go_simp
  refine hK.out _ _ HR2.out (fun hHeld2 => ?_)
  clear hK K
  try simp only [Act.put, sIa, sI0, sI1]
  refine rd 10 (h := fun K hK => ?_)
  go_simp
  refine hK.out _ _ (range_alloc (w := w2.drew) HR2.out _) (fun hHeld3 => ?_)
  clear hK K
  try simp only [Act.put, sIa, sI0, sI1]
  refine rd 11 (h := fun K hK => ?_)
  refine step_append_lies _ rfl (.tmp 32) (.tmp 38) 93 rfl 0 158 iw zw 513 520 Tryz.underlying93 i1 i2 i3 i4 i5 (by decide) _ _ _ rfl (HWT.out.drew.alloc _) ⟨w2.heap.size, 0, none⟩ 1 1 (wrCells (a, l)) rfl (wrCells_length _ HL.out) ?newsA (wrCells_one _) (by decide) (by simp only [maxLen]; omega) (by omega) (Nat.zero_le _) (w2.heap.size + 1) (by simp) ?_
  ·exact World.news_of_block (w := w2.drew.alloc (.cells (wrCells (a, l)).toArray 158)) (heap_alloc_new w2.drew _)
  intro g' cap' w4 hown4 hg4 hat4 hlt4
  have HR4 := hHd (range_grown (range_alloc (w := w2.drew) HR2.out _) hg4 (fun e => HNW.out (by rw [HV.out]; exact e.symm)))
  have e4 := hg4.cell (a := ⟨b, 1, none⟩) e1a (fun e => HBN.out (by rw [HV.out]; exact e.symm))
  have f4 := (World.frozen?_of_block (a := ⟨b, 1, none⟩) (hg4.block b (by simp; omega) (fun e => HBN.out (by rw [HV.out]; exact e.symm)))).trans ((World.frozen?_alloc_past (w := w2.drew) _ b 1 hblt).trans hfr)
  have HO4 := hHd hown4
  have HG4 := hHd hg4
  clear hown4 hg4
  refine hK.out _ _ HR4.out (fun hHeld4 => ?_)
  clear hK K
  try simp only [Act.put, sIa, sI0, sI1]
  refine rd 12 (h := fun K hK => ?_)
  go_simp
  refine hK.out _ _ HR4.out (fun hHeld5 => ?_)
  clear hK K
  try simp only [Act.put, sIa, sI0, sI1]
  refine rd 13 (h := fun K hK => ?_)
  go_simp
  refine hK.out _ _ HR4.out (fun hHeld6 => ?_)
  clear hK K
  try simp only [Act.put, sIa, sI0, sI1]
  refine rd 14 (h := fun K hK => ?_)
  go_simp
  refine hK.out _ _ (range_set HOFF.out.1 HR4.out _) (fun hHeld7 => ?_)
  clear hK K
  try simp only [Act.put]
  refine wpAnyH_done (by kernel_rfl) ?_ _
  go_wp2_with fail
  go_ret
  have hgg : (w2.drew.alloc (.cells (wrCells (a, l)).toArray 158)).grownBy w4 vw.ownBlock := by rw [HV.out]; exact HG4.out
  have hgt : vw.ownBlock = some g' \/ g' = w2.heap.size + 1 := by rw [HV.out]; exact hat4
  obtain ⟨q1, q2⟩ := write_end (F := F) H3.out (fun k hk => HF.out k (Nat.le_trans HSZ.out hk)) HS.out (a := a) (l := l) hs HL.out hw HBX.out HST.out HN2.out HK2.out hgg hgt HO4.out
  exact ⟨rfl, q1, K2.out.trans q2⟩
 ·go_simp
  refine hK.out _ _ (range_alloc (w := w2.drew) HR2.out _) (fun hHeld2 => ?_)
  clear hK K
  try simp only [Act.put, sIa, sI0, sI1]
  refine rd 4 (h := fun K hK => ?_)
  go_simp
  refine hK.out _ _ (range_alloc (w := w2.drew) HR2.out _) (fun hHeld3 => ?_)
  clear hK K
  try simp only [Act.put, sIa, sI0, sI1]
  refine rd 11 (h := fun K hK => ?_)
  refine step_append_lies _ rfl (.tmp 32) (.tmp 38) 93 rfl 0 158 iw zw 513 520 Tryz.underlying93 i1 i2 i3 i4 i5 (by decide) _ _ _ rfl (HWT.out.drew.alloc _) ⟨w2.heap.size, 0, none⟩ 1 1 (wrCells (a, l)) rfl (wrCells_length _ HL.out) ?newsB (wrCells_one _) (by decide) (by simp only [maxLen]; omega) (by omega) (Nat.zero_le _) (w2.heap.size + 1) (by simp) ?_
  ·exact World.news_of_block (w := w2.drew.alloc (.cells (wrCells (a, l)).toArray 158)) (heap_alloc_new w2.drew _)
  intro g' cap' w4 hown4 hg4 hat4 hlt4
  have HR4 := hHd (range_grown (range_alloc (w := w2.drew) HR2.out _) hg4 (fun e => HNW.out (by rw [HV.out]; exact e.symm)))
  have e4 := hg4.cell (a := ⟨b, 1, none⟩) e1a (fun e => HBN.out (by rw [HV.out]; exact e.symm))
  have f4 := (World.frozen?_of_block (a := ⟨b, 1, none⟩) (hg4.block b (by simp; omega) (fun e => HBN.out (by rw [HV.out]; exact e.symm)))).trans ((World.frozen?_alloc_past (w := w2.drew) _ b 1 hblt).trans hfr)
  have HO4 := hHd hown4
  have HG4 := hHd hg4
  clear hown4 hg4
  refine hK.out _ _ HR4.out (fun hHeld4 => ?_)
  clear hK K
  try simp only [Act.put, sIa, sI0, sI1]
  refine rd 12 (h := fun K hK => ?_)
  go_simp
  refine hK.out _ _ HR4.out (fun hHeld5 => ?_)
  clear hK K
  try simp only [Act.put, sIa, sI0, sI1]
  refine rd 13 (h := fun K hK => ?_)
  go_simp
  refine hK.out _ _ HR4.out (fun hHeld6 => ?_)
  clear hK K
  try simp only [Act.put, sIa, sI0, sI1]
  refine rd 14 (h := fun K hK => ?_)
  go_simp
  refine hK.out _ _ (range_set HOFF.out.1 HR4.out _) (fun hHeld7 => ?_)
  clear hK K
  try simp only [Act.put]
  refine wpAnyH_done (by kernel_rfl) ?_ _
  go_wp2_with fail
  go_ret
  have hgg : (w2.drew.alloc (.cells (wrCells (a, l)).toArray 158)).grownBy w4 vw.ownBlock := by rw [HV.out]; exact HG4.out
  have hgt : vw.ownBlock = some g' \/ g' = w2.heap.size + 1 := by rw [HV.out]; exact hat4
  obtain ⟨q1, q2⟩ := write_end (F := F) H3.out (fun k hk => HF.out k (Nat.le_trans HSZ.out hk)) HS.out (a := a) (l := l) hs HL.out hw HBX.out HST.out HN2.out HK2.out hgg hgt HO4.out
  exact ⟨rfl, q1, K2.out.trans q2⟩
end
def Dm.writeS (d : Dm) (a : Int) (l : List UInt8) : Dm × Int :=
 if !d.power then (d, 4) else if !(secB d a && l.length == 512) then (d, 2) else if d.out then (d.lose d.keep, 4) else (d.act.push a.toNat l, 0)
def Dm.readS (d : Dm) (a : Int) : List UInt8 × Int := if !d.power then ([], 4) else if !secB d a then ([], 2) else (d.nowAt a.toNat, 0)
section
variable {w : World} {b : Nat} {d : Dm} {F : Nat -> Prop}
theorem write_any (hF : ∀ k, w.heap.size <= k -> F k) (hD : Dsk F w b d) (a : Int) (A : Option Addr) (l : List UInt8) (c : Nat) (hr : Rd w A l) (hbt : ∀ ad, A = some ad -> ∀ cs fr, w.heap[ad.block]? ≠ some (.cells cs 158 fr)) (hw : d.wait.length + 1 < 1073741824) :
  Calls Tryz.prog 108 #[.pointer (some ⟨b, 0, none⟩), .int .i64 a, .slice A l.length c] w fun e w' => e = .returned (.int .i64 (d.writeS a l).2) /\ Dsk F w' b (d.writeS a l).1 /\ Kp F w w' := by
 rcases hp : d.power with _ | _
 ·refine (write_dead hD a A l.length c hp).mono fun e w' ⟨he, hk⟩ => ?_
  have hx : d.writeS a l = (d, 4) := by simp [Dm.writeS, hp]
  rw [hx]
  exact ⟨he, hD.still hk, hk.of_false⟩
 rcases hs : secB d a with _ | _
 ·refine (write_arg1 hD a A l.length c hp hs).mono fun e w' ⟨he, hk⟩ => ?_
  have hx : d.writeS a l = (d, 2) := by simp [Dm.writeS, hp, hs]
  rw [hx]
  exact ⟨he, hD.still hk, hk.of_false⟩
 rcases hf : (((l.length : Nat) : Int) == 512) with _ | _
 ·refine (write_arg2 hD a A l.length c hp hs hf).mono fun e w' ⟨he, hk⟩ => ?_
  have hne : l.length ≠ 512 := by intro e; rw [e] at hf; cases hf
  have hx : d.writeS a l = (d, 2) := by simp [Dm.writeS, hp, hne]
  rw [hx]
  exact ⟨he, hD.still hk, hk.of_false⟩
 have hl : l.length = 512 := by have := eq_of_beq hf; omega
 rcases ho : d.out with _ | _
 ·have hs2 : 0 <= a /\ a < d.on.length := by simpa [secB] using hs
  rcases hr with e | ⟨bb, bo, rfl, hc⟩
  ·rw [e] at hl; cases hl
  have ha : ((a.toNat : Nat) : Int) = a := by omega
  have := write_ok hF hD a.toNat l bb bo c hp (by omega) hl ho (fun j v hj => by
   rw [bcs_get] at hj
   obtain ⟨u, hu, rfl⟩ := Option.map_eq_some_iff.1 hj
   exact hc j u hu) (hbt ⟨bb, bo, none⟩ rfl) hw
  rw [ha, <- hl] at this
  have hx : d.writeS a l = (d.act.push a.toNat l, 0) := by simp [Dm.writeS, hp, hs, hl, ho]
  rw [hx]
  exact this
 ·refine (write_out hD a A l.length c hp hs hf ho).mono fun e w' ⟨he, hd, hk⟩ => ?_
  have hx : d.writeS a l = (d.lose d.keep, 4) := by simp [Dm.writeS, hp, hs, hl, ho]
  rw [hx]
  exact ⟨he, hd, hk⟩
theorem read_any (hD : Dsk F w b d) (a : Int) :
  Calls Tryz.prog 66 #[.pointer (some ⟨b, 0, none⟩), .int .i64 a] w fun e w' => ∃ A, e = .returned (.tuple #[.slice A (d.readS a).1.length (d.readS a).1.length, .int .i64 (d.readS a).2]) /\ Rd w' A (d.readS a).1 /\ Kp (fun _ => False) w w' := by
 rcases hp : d.power with _ | _
 ·refine (read_dead hD a hp).mono fun e w' ⟨he, hk⟩ => ?_
  have hx : d.readS a = ([], 4) := by simp [Dm.readS, hp]
  rw [hx]
  exact ⟨none, he, .inl rfl, hk⟩
 rcases hs : secB d a with _ | _
 ·refine (read_arg hD a hp hs).mono fun e w' ⟨he, hk⟩ => ?_
  have hx : d.readS a = ([], 2) := by simp [Dm.readS, hp, hs]
  rw [hx]
  exact ⟨none, he, .inl rfl, hk⟩
 have hs2 : 0 <= a /\ a < d.on.length := by simpa [secB] using hs
 have ha : ((a.toNat : Nat) : Int) = a := by omega
 have := read_ok hD a.toNat hp (by omega)
 rw [ha] at this
 refine this.mono fun e w' ⟨g, he, hb, _, hk⟩ => ?_
 have hx : d.readS a = (d.nowAt a.toNat, 0) := by simp [Dm.readS, hp, hs]
 obtain ⟨_, _, _, hdk, _⟩ := hD
 have hl := nowAt_length hdk.ok a.toNat (by omega)
 rw [hx]
 dsimp only
 rw [hl]
 refine ⟨some ⟨g, 0, none⟩, he, .inr ⟨g, 0, rfl, fun j u hj => ?_⟩, hk⟩
 rw [hb.cell, Nat.zero_add]
 simp [bcs_get, hj]
end
end Go.Proofs.YtepaeliamhjgiaaGreatDoor
