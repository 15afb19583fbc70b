/- The hash of bytes: what sha.Sum answers, in the document's words. Conditions: the two tables read as the program's text lays them; at most 2^32 bytes. -/
import Derived.Test.YtbchfpcdmkldeaaDoorShaChunk
import Derived.Test.YtbchfpcdmkldeaaDoorShaWork
import Derived.Test.YtbchfpcdmkldeaaDoorShaTail
namespace Go.Proofs.YtbchfpcdmkldeaaDoor
open Go.RowKit Go.Shelf
attribute [local go_sem] Oper.semAt_some

/-- The first words. -/
def h0Z : St := ⟨1779033703, 3144134277, 1013904242, 2773480762, 1359893119, 2600822924, 528734635, 1541459225⟩
def Fst (w : World) : Prop := w.rangeAt 0 0 h0Z.cells
/-- Both tables read as the program's text lays them. -/
structure Tbls (w : World) : Prop where
  k : Tbl w
  h : Fst w
theorem Tbls.kp {w w' : World} {S : Nat → Prop} (h : Tbls w) (hk : Kp S w w') (hn : ¬ S 1) (hn2 : ¬ S 0) : Tbls w' :=
  ⟨h.k.kp hk hn, fun j v hj => (hk.cell (p := ⟨0, 0 + j, none⟩) (World.block_lt_of_cell? w _ (h.h j v hj)) hn2).trans (h.h j v hj)⟩
/-- m blocks of 64 bytes, worked in. -/
def blkAt (L : List UInt8) (k : Nat) : List UInt8 := (L.drop (64 * k)).take 64
def foldB (s : St) (L : List UInt8) (m : Nat) : St := (List.finRange m).foldl (fun s k => s.block kZ (blkAt L k.1)) s
/-- The last bytes and what stands behind them. -/
def endL (l : List UInt8) : List UInt8 := tailL (l.drop (64 * (l.length / 64))) l.length
/-- The words behind the last block. -/
def shaZ (l : List UInt8) : St := foldB (foldB h0Z l (l.length / 64)) (endL l) ((endL l).length / 64)

theorem boxes5 (w : World) (c0 c1 c2 c3 c4 : Array Value) (t0 t1 t2 t3 t4 : TypeId) : ∃ W, W = ((((w.alloc (.cells c0 t0)).alloc (.cells c1 t1)).alloc (.cells c2 t2)).alloc (.cells c3 t3)).alloc (.cells c4 t4) ∧
    Box W w.heap.size t0 c0 ∧ Box W (w.heap.size + 1) t1 c1 ∧ Box W (w.heap.size + 1 + 1) t2 c2 ∧ Box W (w.heap.size + 1 + 1 + 1) t3 c3 ∧ Box W (w.heap.size + 1 + 1 + 1 + 1) t4 c4 ∧ Kp (fun _ => False) w W ∧ W.heap.size = w.heap.size + 5 := by
  refine ⟨_, rfl, ?_, ?_, ?_, ?_, ?_, ((((((Kp.refl (fun _ => False) w).alloc _).alloc _).alloc _).alloc _).alloc _), by simp⟩
  · exact ((((Box.new w t0 c0).alloc _).alloc _).alloc _).alloc _
  · have := (((Box.new (w.alloc (.cells c0 t0)) t1 c1).alloc (.cells c2 t2)).alloc (.cells c3 t3)).alloc (.cells c4 t4)
    simpa only [World.size_alloc] using this
  · have := ((Box.new ((w.alloc (.cells c0 t0)).alloc (.cells c1 t1)) t2 c2).alloc (.cells c3 t3)).alloc (.cells c4 t4)
    simpa only [World.size_alloc] using this
  · have := (Box.new (((w.alloc (.cells c0 t0)).alloc (.cells c1 t1)).alloc (.cells c2 t2)) t3 c3).alloc (.cells c4 t4)
    simpa only [World.size_alloc] using this
  · have := Box.new ((((w.alloc (.cells c0 t0)).alloc (.cells c1 t1)).alloc (.cells c2 t2)).alloc (.cells c3 t3)) t4 c4
    simpa only [World.size_alloc] using this
theorem own_I {α : Type} {W0 : World} {g : Nat} {t : TypeId} (hg : g < W0.heap.size) (f : List α → Array Value) : OwnFrom W0.heap.size (fun (pre : List α) W => Box W g t (f pre) ∧ Kp (fun k => k = g) W0 W) :=
  fun s A B row hs hgr hr => ⟨hs.1.grown hgr (fun e => by have := (hr g e.symm).1; omega), hs.2.grown hgr (fun k e => .inl (hr k e).1)⟩

theorem blkAt_length (L : List UInt8) (k : Nat) (h : 64 * k + 64 ≤ L.length) : (blkAt L k).length = 64 := by
  simp only [blkAt, List.length_take, List.length_drop]
  omega
theorem blkAt_get (L : List UInt8) (k j : Nat) (u : UInt8) (h : (blkAt L k)[j]? = some u) : L[64 * k + j]? = some u := by
  have hj : j < 64 := by
    have := (List.getElem?_eq_some_iff.1 h).1
    simp only [blkAt, List.length_take] at this
    omega
  rw [blkAt, List.getElem?_take_of_lt hj, List.getElem?_drop] at h
  exact h
theorem own_form {w : World} {base n : Nat} {e : TypeId} {v : Value} {xs : List Value} (h : w.ownsRow base e 1 v n xs) (hn : 0 < n) : ∃ g cap, v = .slice (some ⟨g, 0, none⟩) n cap ∧ base ≤ g ∧ g < w.heap.size ∧ n ≤ cap := by
  rcases h.2 with ⟨_, h0⟩ | ⟨g, cap, cur, hv, hb, hg, hnc, _⟩
  · omega
  · refine ⟨g, cap, hv, hb, ?_, hnc⟩
    rcases Nat.lt_or_ge g w.heap.size with hlt | hge
    · exact hlt
    · rw [Array.getElem?_eq_none hge] at hg; cases hg
theorem rd_cell {w : World} {g : Nat} {L : List UInt8} (h : Rd w (some ⟨g, 0, none⟩) L) (j : Nat) (u : UInt8) (hj : L[j]? = some u) : w.cell? ⟨g, j, none⟩ = some (.int .u8 u.toNat) := by
  rcases h with rfl | ⟨b, o, e, hc⟩
  · simp at hj
  · injection e with e
    injection e with e1 e2
    subst e1; subst e2
    have := hc j u hj
    rwa [Nat.zero_add] at this
theorem wpListIn_store_mid {F : Fence} {n : Nat} {P : Program} {ops : Array Oper} {rest : List Oper} {op : Oper} {a : Act} {w : World} {Q : Exit → Act → World → Prop} (hgd : op.guard = none) (ty : TypeId) (x y : Operand) (ho : op.op = .store ty x y)
    (b o : Nat) (cells : Array Value) (hx : a.eval x = .pointer (some ⟨b, o, none⟩)) (hy : a.eval y = .agg cells)
    (ht : w.there b o cells.size) (hi : (P.info? ty).map (·.size) = some cells.size) (h1 : cells.all (·.oneCell') = true)
    (h : wpListIn F n P ops Q rest (a.put op.dst undef) (w.setCells b o cells.toList)) : wpListIn F n P ops Q (op :: rest) a w := by
  refine wpListIn_plain hgd fun K hK => ?_
  unfold Oper.wpIn
  refine ⟨?_, ?_⟩
  · simp [Oper.about, ho]
  · rw [Oper.semAt_plain F _ _ (by rw [ho]; intro c hc'; cases hc')]
    simp only [execOp, ho, hx, hy, Instr.storeAt, Instr.sureAddr, Sem.run_bind, Sem.run_pure, Result.andThen_ok, run_storeVar_mid w b o ty cells ht hi h1]
    exact hK _ _ h
theorem kp_keeps {B G : Nat} {W W' : World} (h : Kp (fun k => k = G) W W') (hG : G < B) : KeepsFrom B W W' :=
  ⟨h.size, fun k o hB hk _ => (h.block k (Array.getElem?_eq_some_iff.1 hk).1 (by omega)).trans hk⟩

set_option maxRecDepth 100000 in
set_option maxHeartbeats 4000000 in
theorem sum_in (A : Option Addr) (l : List UInt8) (c : Nat) (w : World) (hl : l.length ≤ c) (hm : l.length ≤ 4294967296) (hr : Rd w A l) (ht : Tbls w) :
    CallsIn Fence.wide 3 Tryd.prog 6 #[.slice A l.length c] w fun e w' => e = .returned (.agg (hCells (hashZ (shaZ l))).toArray) ∧ Kp (fun _ => False) w w' := by
  have Hr : Hid (Tryd.f6.results = #[.cell 2 25]) := Lib.hid (by kernel_rfl)
  have hF : ∀ f, Fence.wide.fn f := fun _ => trivial
  have hro : Fence.wide.round = none := rfl
  have T := Lib.hid ht
  have R := Lib.hid hr
  have kz := (Kp.refl (fun _ => False) w).alloc (.cells zero32.toArray 25)
  have htz := ht.kp kz (fun h => h) (fun h => h)
  unfold zero32 at htz
  have c0 := htz.h 0 _ rfl
  have c1 := htz.h 1 _ rfl
  have c2 := htz.h 2 _ rfl
  have c3 := htz.h 3 _ rfl
  have c4 := htz.h 4 _ rfl
  have c5 := htz.h 5 _ rfl
  have c6 := htz.h 6 _ rfl
  have c7 := htz.h 7 _ rfl
  simp only [Nat.zero_add] at c0 c1 c2 c3 c4 c5 c6 c7
  clear ht hr htz kz
  have hrem : ((l.length : Int)).tmod 64 = ((l.length % 64 : Nat) : Int) := (Int.ofNat_tmod l.length 64).symm
  have hwhole : (l.length : Int) - ((l.length % 64 : Nat) : Int) = ((64 * (l.length / 64) : Nat) : Int) := by omega
  have hm1 : 64 * (l.length / 64) ≤ l.length := by omega
  refine callsIn_of_wp_marks Tryd.func6 rfl (hF _) ?_ hro
  simp only [Tryd.ntmps6, List.size_toArray, List.length_cons, List.length_nil, Nat.reduceAdd, Nat.reduceSub, Array.replicate_succ, Array.replicate_zero, List.push_toArray, List.append_toArray, List.nil_append, List.cons_append]
  generalize l.length % 64 = r at *
  generalize hm1e : l.length / 64 = m at *
  gi_wp2_with (gi_at_call 12; refine (chunk_in Fence.wide (3 - 1) (hF _) hro _ _ _ _).mono ?_; rintro e w' ⟨rfl, rfl⟩)
  clear c0 c1 c2 c3 c4 c5 c6 c7
  obtain ⟨W0, hW0, b0, b1, b2, b3, b4, k0, hsz⟩ := boxes5 w #[.int .u8 0, .int .u8 0, .int .u8 0, .int .u8 0, .int .u8 0, .int .u8 0, .int .u8 0, .int .u8 0, .int .u8 0, .int .u8 0, .int .u8 0, .int .u8 0, .int .u8 0, .int .u8 0, .int .u8 0, .int .u8 0, .int .u8 0, .int .u8 0, .int .u8 0, .int .u8 0, .int .u8 0, .int .u8 0, .int .u8 0, .int .u8 0, .int .u8 0, .int .u8 0, .int .u8 0, .int .u8 0, .int .u8 0, .int .u8 0, .int .u8 0, .int .u8 0] h0Z.cells.toArray #[.func (.func 9) #[] #[.pointer (some ⟨w.heap.size + 1, 0, none⟩)]] #[.slice A (64 * m) c] #[.int .i64 64] 25 31 35 22 3
  rw [St.cells_eq] at hW0
  rw [← hW0]
  clear hW0
  have hA : ∃ b o, (m = 0 ∨ A = some ⟨b, o, none⟩) ∧ ∀ j u, l[j]? = some u → b < w.heap.size ∧ W0.cell? ⟨b, o + j, none⟩ = some (.int .u8 u.toNat) := by
    rcases R.out with e | ⟨b, o, e, hc⟩
    · subst e
      exact ⟨0, 0, .inl (by simp only [List.length_nil] at hm1; omega), fun j u hj => by simp at hj⟩
    · exact ⟨b, o, .inr e, fun j u hj => ⟨World.block_lt_of_cell? w _ (hc j u hj), (k0.cell (p := ⟨b, o + j, none⟩) (World.block_lt_of_cell? w _ (hc j u hj)) (fun h => h)).trans (hc j u hj)⟩⟩
  obtain ⟨b, o, hA, hcA⟩ := hA
  have T0 := Lib.hid (T.out.kp k0 (fun h => h) (fun h => h))
  refine wpIn_rangeFunc_ownG hro (by omega) (gf := 20) (lb := #[.pointer (some ⟨w.heap.size + 1 + 1 + 1, 0, none⟩), .pointer (some ⟨w.heap.size + 1 + 1 + 1 + 1, 0, none⟩)]) rfl (hF _) (enters_of Tryd.func20 (by kernel_rfl) rfl)
    (chunk_stops Fence.wide (3 - 1) (hF _) hro (by omega) (w.heap.size + 1 + 1 + 1) (w.heap.size + 1 + 1 + 1 + 1) b o m c A hA (by omega) (by omega) W0 (by omega) (by omega) (b3.cell 0) (b4.cell 0)) (fun h k => h.trans k) (kpK_b (fun k hk => by omega)) (Below.refl _ _) (fun _ => rfl)
    (fun pre W => Box W (w.heap.size + 1) 31 (pre.foldl (fun s k => s.block kZ (blkAt l k.1)) h0Z).cells.toArray ∧ Kp (fun k => k = w.heap.size + 1) W0 W)
    (fun _ _ _ => False)
    (own_I (by omega) _)
    (fun _ _ _ _ _ hs _ _ => hs)
    ⟨b1, Kp.refl _ _⟩
    (fun x => { tmps := #[.slice A l.length c, undef, .pointer (some ⟨w.heap.size, 0, none⟩), .pointer (some ⟨w.heap.size + 1, 0, none⟩), .pointer (some ⟨w.heap.size + 1 + 1, 0, none⟩), .int .i64 (64 * m), .slice (some ⟨b, o + 64 * x.1, none⟩) 64 64, undef, .agg #[.int .u32 h0Z.a, .int .u32 h0Z.b, .int .u32 h0Z.c, .int .u32 h0Z.d, .int .u32 h0Z.e, .int .u32 h0Z.f, .int .u32 h0Z.g, .int .u32 h0Z.h], .func (.func 9) #[] #[.pointer (some ⟨w.heap.size + 1, 0, none⟩)], .slice A l.length c, .int .i64 l.length, .slice A l.length c, .int .i64 l.length, .int .i64 r, .int .i64 (64 * m), .slice A l.length c, .int .i64 (64 * m), .slice A (64 * m) c, .func (.func 20) #[] #[.pointer (some ⟨w.heap.size + 1 + 1 + 1, 0, none⟩), .pointer (some ⟨w.heap.size + 1 + 1 + 1 + 1, 0, none⟩)], .slice (some ⟨b, o + 64 * x.1, none⟩) 64 64, undef, undef, undef, undef, undef, undef, undef, undef, undef, undef, undef, undef, undef, undef, undef, undef], defers := [] }) ?assign ?body ?done ?stop
  case assign =>
    intro l x W K hK
    gi_wp2
    exact hK
  case body =>
    rintro lp pre x W ⟨hb, hk⟩ _
    dsimp only
    have hxl : 64 * x.1 + 64 ≤ l.length := by have := x.2; omega
    have hbl := blkAt_length l x.1 hxl
    have hcf := (b2.kp hk (by omega)).cell 0
    have hcb : ∀ j u, (blkAt l x.1)[j]? = some u → W.cell? ⟨b, o + 64 * x.1 + j, none⟩ = some (.int .u8 u.toNat) := fun j u hj => by
      obtain ⟨h1, h2⟩ := hcA (64 * x.1 + j) u (blkAt_get l x.1 j u hj)
      rw [hk.cell (p := ⟨b, o + 64 * x.1 + j, none⟩) (by simp only; omega) (by simp only; omega), Nat.add_assoc]
      exact h2
    have hw := Lib.hid (work_any _ b (o + 64 * x.1) (w.heap.size + 1) (blkAt l x.1) W hbl hcb hb (T0.out.k.kp hk (by have := k0.size; have := World.block_lt_of_cell? w _ (T.out.k 0 _ rfl); simp only at this; omega)))
    have HK := Lib.hid hk
    clear hb hk hcb hbl
    simp at hcf
    gi_wp2
    refine (CallsIn.inRound lp (callsIn_wide.2 hw.out)).mono ?_
    rintro e W' ⟨rfl, hb', hk'⟩
    gi_wp2
    exact ⟨kp_keeps hk' (by omega), hk'.mono (fun k _ h => by omega), by simpa using hb', HK.out.trans hk'⟩
  case stop =>
    rintro D c pre W _ _ h _
    exact h.elim
  case done =>
    rintro D xs W hD rfl ⟨hb, hk⟩ hdef
    have hblk : Hid (List.foldl (fun s (k : Fin m) => St.block kZ s (blkAt l ↑k)) h0Z (List.finRange m) = foldB h0Z l m) := Lib.hid rfl
    rw [hblk.out] at hb
    clear hblk
    have kw : Kp (fun _ => False) w W := k0.trans_new hk (fun q hq => .inl (by omega))
    have hrd : Rd W A l := R.out.kp_new' kw (fun _ h => h.elim)
    have hdr := hrd.drop (n := 64 * m) hl
    have hb0 := b0.kp hk (by omega)
    have hb2 := b2.kp hk (by omega)
    have hDlt : D < W.heap.size := (Array.getElem?_eq_some_iff.1 hdef).1
    have hWsz := hk.size
    have HB := Lib.hid hb
    have HB0 := Lib.hid hb0
    have HB2 := Lib.hid hb2
    have KW := Lib.hid kw
    have HD := Lib.hid hdef
    clear hb hb0 hb2 kw hdef hrd hk hcA
    have hdrl : (l.drop (64 * m)).length < 64 := by rw [List.length_drop]; omega
    obtain ⟨A', hA', hdr'⟩ : ∃ A', (if c = 64 * m then A else A.map (·.add (64 * m))) = A' ∧ Rd W A' (l.drop (64 * m)) := ⟨_, rfl, hdr⟩
    have HDr := Lib.hid hdr'
    clear hdr hdr'
    have htl := tail_any A' (c - 64 * m) l.length (l.drop (64 * m)) W hdrl hm HDr.out
    rw [List.length_drop] at htl
    have Htl := Lib.hid htl
    clear htl
    have hsl : ∀ w : World, (Instr.sliceAt 22 (.slice A l.length c) (some (.int .i64 (64 * m))) none none).run Tryd.prog w = .ok (.slice A' (l.length - 64 * m) (c - 64 * m)) w := by
      intro w
      obtain ⟨i0, hi, hz0, hz1, hz2⟩ := info_parts info_byt
      have hel : Tryd.prog.elem 22 = 5 := by kernel_rfl
      have hu : Tryd.prog.underlying 22 = some (.slice (Tryd.prog.elem 22)) := by rw [hel]; exact Tryd.underlying22
      rw [run_sliceAt_slice (h := hu), run_slice_l (ht := hu) (h0 := by omega) (h1 := by omega), hel]
      have htn : ((64 : Int) * m).toNat = 64 * m := by omega
      simp only [sizeOf, typeInfo, Sem.run_bind, Sem.run_pure, sliced, htn]
      rw [← hA']
      simp [hi, hz1]
    clear hA'
    gi_wp2
    refine (callsIn_wide.2 Htl.out).mono ?_
    rintro e Wt ⟨v, rfl, hown, kt⟩
    have hlen := tailL_length (l.drop (64 * m)) l.length hdrl
    obtain ⟨m2, hm2⟩ : ∃ m2, (tailL (l.drop (64 * m)) l.length).length = 64 * m2 := by
      rcases hlen with h | h
      · exact ⟨1, by omega⟩
      · exact ⟨2, by omega⟩
    have hm20 : 0 < m2 ∧ m2 < 3 := by omega
    obtain ⟨gt, capt, rfl, hgt1, hgt2, hcapt⟩ := own_form hown (by omega)
    rw [hm2] at hcapt
    have hrt := Rd.of_own hown
    have HL : Hid (tailL (l.drop (64 * m)) l.length = endL l) := Lib.hid (by rw [endL, hm1e])
    rw [HL.out] at hrt hm2 hown
    have Hm2 := Lib.hid hm2
    have hob := (hown.lt gt rfl).1
    have HRt := Lib.hid hrt
    have HBt := Lib.hid (HB.out.kp kt (fun h => h))
    have HB0t := Lib.hid (HB0.out.kp kt (fun h => h))
    have HB2t := Lib.hid (HB2.out.kp kt (fun h => h))
    have HDt := Lib.hid ((kt.block D hDlt (fun h => h)).trans HD.out)
    have KWt := Lib.hid (KW.out.trans kt)
    have hWt := kt.size
    rw [HL.out, hm2]
    clear hown hrt hm2 kt HB HB0 HB2 HD KW Htl hlen
    gi_wp2
    refine (chunk_in Fence.wide (3 - 1) (hF _) hro _ _ _ _).mono ?_
    rintro e w' ⟨rfl, rfl⟩
    have hs3 := ((Box.new Wt 22 #[.slice (some ⟨gt, 0, none⟩) (64 * m2) capt]).alloc (.cells #[.int .i64 64] 3))
    have hs4 := (Box.new (Wt.alloc (.cells #[.slice (some ⟨gt, 0, none⟩) (64 * m2) capt] 22)) 3 #[.int .i64 64])
    rw [World.size_alloc] at hs4
    have hka := (((Kp.refl (fun _ => False) Wt).alloc (.cells #[.slice (some ⟨gt, 0, none⟩) (64 * m2) capt] 22)).alloc (.cells #[.int .i64 64] 3))
    have hsz2 : ((Wt.alloc (.cells #[.slice (some ⟨gt, 0, none⟩) (64 * m2) capt] 22)).alloc (.cells #[.int .i64 64] 3)).heap.size = Wt.heap.size + 2 := by simp
    gi_wp2
    generalize (Wt.alloc (.cells #[.slice (some ⟨gt, 0, none⟩) (64 * m2) capt] 22)).alloc (.cells #[.int .i64 64] 3) = W2 at *
    have HBu := Lib.hid (HBt.out.kp hka (fun h => h))
    have HB0u := Lib.hid (HB0t.out.kp hka (fun h => h))
    have HB2u := Lib.hid (HB2t.out.kp hka (fun h => h))
    have HDu := Lib.hid ((hka.block D (by omega) (fun h => h)).trans HDt.out)
    have KWu := Lib.hid (KWt.out.trans hka)
    have HRu := Lib.hid (HRt.out.kp_new' hka (fun _ h => h.elim))
    have HS3 := Lib.hid hs3
    have HS4 := Lib.hid hs4
    clear HBt HB0t HB2t HDt KWt HRt hka hs3 hs4
    have htu := Lib.hid (T.out.kp KWu.out (fun h => h) (fun h => h))
    refine wpIn_rangeFunc_ownG hro (by omega) (gf := 20) (lb := #[.pointer (some ⟨Wt.heap.size, 0, none⟩), .pointer (some ⟨Wt.heap.size + 1, 0, none⟩)]) rfl (hF _) (enters_of Tryd.func20 (by kernel_rfl) rfl)
      (chunk_stops Fence.wide (3 - 1) (hF _) hro (by omega) Wt.heap.size (Wt.heap.size + 1) gt 0 m2 capt (some ⟨gt, 0, none⟩) (.inr rfl) hcapt (by omega) W2 (by omega) (by omega) (HS3.out.cell 0) (HS4.out.cell 0)) (fun h k => h.trans k) (kpK_b (fun k hk => by omega)) (Below.refl _ _) (fun _ => rfl)
      (fun pre W => Box W (w.heap.size + 1) 31 (pre.foldl (fun s k => s.block kZ (blkAt (endL l) k.1)) (foldB h0Z l m)).cells.toArray ∧ Kp (fun k => k = w.heap.size + 1) W2 W)
      (fun _ _ _ => False)
      (own_I (by omega) _)
      (fun _ _ _ _ _ hs _ _ => hs)
      ⟨HBu.out, Kp.refl _ _⟩
      (fun x => { tmps := #[.slice A l.length c, undef, .pointer (some ⟨w.heap.size, 0, none⟩), .pointer (some ⟨w.heap.size + 1, 0, none⟩), .pointer (some ⟨w.heap.size + 1 + 1, 0, none⟩), .int .i64 (64 * m), undef, .slice (some ⟨gt, 64 * x.1, none⟩) 64 64, .agg #[.int .u32 h0Z.a, .int .u32 h0Z.b, .int .u32 h0Z.c, .int .u32 h0Z.d, .int .u32 h0Z.e, .int .u32 h0Z.f, .int .u32 h0Z.g, .int .u32 h0Z.h], .func (.func 9) #[] #[.pointer (some ⟨w.heap.size + 1, 0, none⟩)], .slice A l.length c, .int .i64 l.length, .slice A l.length c, .int .i64 l.length, .int .i64 r, .int .i64 (64 * m), .slice A l.length c, .int .i64 (64 * m), .slice A (64 * m) c, .func (.func 20) #[] #[.pointer (some ⟨w.heap.size + 1 + 1 + 1, 0, none⟩), .pointer (some ⟨w.heap.size + 1 + 1 + 1 + 1, 0, none⟩)], undef, undef, undef, undef, .slice A l.length c, .int .i64 (64 * m), .slice A' (l.length - 64 * m) (c - 64 * m), .slice A l.length c, .int .i64 l.length, .slice (some ⟨gt, 0, none⟩) (64 * m2) capt, .func (.func 20) #[] #[.pointer (some ⟨Wt.heap.size, 0, none⟩), .pointer (some ⟨Wt.heap.size + 1, 0, none⟩)], .slice (some ⟨gt, 64 * x.1, none⟩) 64 64, undef, undef, undef, undef, undef], defers := [] }) ?assign2 ?body2 ?done2 ?stop2
    case assign2 =>
      intro l x W K hK
      gi_wp2
      exact hK
    case stop2 =>
      rintro D c pre W _ _ h _
      exact h.elim
    case body2 =>
      rintro lp pre x W4 ⟨hb, hk⟩ _
      dsimp only
      have hxl : 64 * x.1 + 64 ≤ (endL l).length := by have := x.2; have := Hm2.out; omega
      have hbl := blkAt_length (endL l) x.1 hxl
      have hcf := (HB2u.out.kp hk (by omega)).cell 0
      have hcb : ∀ j u, (blkAt (endL l) x.1)[j]? = some u → W4.cell? ⟨gt, 64 * x.1 + j, none⟩ = some (.int .u8 u.toNat) := fun j u hj => by
        have h2 := rd_cell HRu.out (64 * x.1 + j) u (blkAt_get (endL l) x.1 j u hj)
        rw [hk.cell (p := ⟨gt, 64 * x.1 + j, none⟩) (by simp only; omega) (by simp only; omega)]
        exact h2
      have hw := Lib.hid (work_any _ gt (64 * x.1) (w.heap.size + 1) (blkAt (endL l) x.1) W4 hbl hcb hb (htu.out.k.kp hk (by have := k0.size; have := World.block_lt_of_cell? w _ (T.out.k 0 _ rfl); simp only at this; omega)))
      have HK := Lib.hid hk
      clear hb hk hcb hbl
      simp at hcf
      gi_wp2
      refine (CallsIn.inRound lp (callsIn_wide.2 hw.out)).mono ?_
      rintro e W' ⟨rfl, hb', hk'⟩
      gi_wp2
      exact ⟨kp_keeps hk' (by omega), hk'.mono (fun k _ h => by omega), by simpa using hb', HK.out.trans hk'⟩
    case done2 =>
      rintro D2 xs W5 hD2 rfl ⟨hb, hk⟩ hdef2
      have hsh : foldB (foldB h0Z l m) (endL l) m2 = shaZ l := by
        rw [shaZ, hm1e, Hm2.out, Nat.mul_div_cancel_left _ (by omega)]
      have hfo : List.foldl (fun s (k : Fin m2) => St.block kZ s (blkAt (endL l) ↑k)) (foldB h0Z l m) (List.finRange m2) = shaZ l := hsh
      rw [hfo] at hb
      have hb0 := HB0u.out.kp hk (by omega)
      have hKD : W5.heap[D]? = some (.deferred (some [])) := (hk.block D (by omega) (by omega)).trans HDu.out
      have hk9 : Kp (fun _ => False) w W5 := KWu.out.trans_new hk (fun q hq => .inl (by omega))
      have hD2lt : D2 < W5.heap.size := (Array.getElem?_eq_some_iff.1 hdef2).1
      have hDlt5 : D < W5.heap.size := (Array.getElem?_eq_some_iff.1 hKD).1
      have hDD : D < D2 := by omega
      have hDw : w.heap.size ≤ D := by omega
      have hDg : w.heap.size ≠ D := by omega
      have hDg2 : w.heap.size ≠ D2 := by omega
      obtain ⟨c0, c1, c2, c3, c4, c5, c6, c7⟩ := st_cells8 hb
      have HK9 := Lib.hid hk9
      have HB9 := Lib.hid hb0
      have HD1 := Lib.hid hKD
      have HD2 := Lib.hid hdef2
      clear hsh hfo hb hk hb0 hk9 hKD hdef2
      gi_wp2
      refine (callsIn_wide.2 (hash_any (shaZ l) W5)).mono ?_
      rintro e W6 ⟨rfl, kh⟩
      have hb6 : Hid (Box W6 w.heap.size 25 zero32.toArray) := Lib.hid (HB9.out.kp kh (fun h => h))
      have hk6 := Lib.hid (HK9.out.trans kh)
      have hd1 := Lib.hid ((kh.block D hDlt5 (fun h => h)).trans HD1.out)
      have hd2 := Lib.hid ((kh.block D2 hD2lt (fun h => h)).trans HD2.out)
      clear c0 c1 c2 c3 c4 c5 c6 c7 kh HB9 HK9 HD1 HD2
      have hb7 := Lib.hid (hb6.out.write (vs := hCells (hashZ (shaZ l))) (by rw [hCells_length]; rfl))
      have hkk : Kp (fun q => q = w.heap.size) W6 (W6.setCells w.heap.size 0 (hCells (hashZ (shaZ l)))) := Kp.setCells _ 0 W6 (Kp.refl _ _) (.inr rfl)
      have hk7 := Lib.hid (hk6.out.trans_new hkk (fun q hq => .inl (by omega)))
      have he1 := Lib.hid ((hkk.block D (Array.getElem?_eq_some_iff.1 hd1.out).1 (by omega)).trans hd1.out)
      have he2 := Lib.hid ((hkk.block D2 (Array.getElem?_eq_some_iff.1 hd2.out).1 (by omega)).trans hd2.out)
      clear hkk
      gi_wp2_with (refine wpListIn_store_mid rfl _ (.tmp 2) (.tmp 36) rfl w.heap.size 0 (hCells (hashZ (shaZ l))).toArray rfl rfl ?c1 ?c2 ?c3 ?_)
      case c1 => exact hb6.out.there
      case c2 => rw [List.size_toArray, hCells_length]; exact infoA32
      case c3 => exact all_oneCell_toArray (hCells_one _)
      generalize W6.setCells w.heap.size 0 (hCells (hashZ (shaZ l))) = W7 at *
      have hD2l : D2 < W7.heap.size := (Array.getElem?_eq_some_iff.1 he2.out).1
      have hf1 : (W7.putObj D2 (.deferred none)).heap[D]? = some (.deferred (some [])) := (World.putObj_heap_other (by omega)).trans he1.out
      have hk8 : Kp (fun _ => False) w ((W7.putObj D2 (.deferred none)).putObj D (.deferred none)) :=
        (hk7.out.grown (grownBy_putObj' W7 D2 _) (fun k e => by cases e; exact .inl (by omega))).grown (grownBy_putObj' _ D _) (fun k e => by cases e; exact .inl hDw)
      have hb8 : Box ((W7.putObj D2 (.deferred none)).putObj D (.deferred none)) w.heap.size 25 (hCells (hashZ (shaZ l))).toArray :=
        (hb7.out.grown (grownBy_putObj' W7 D2 _) (fun e => hDg2 (by injection e))).grown (grownBy_putObj' _ D _) (fun e => hDg (by injection e))
      refine ⟨by simp, .inl ⟨_, _, rfl, run_takeDeferred he2.out, ?_⟩⟩
      refine ⟨by simp, .inl ⟨_, _, rfl, run_takeDeferred hf1, ?_⟩⟩
      refine ⟨.agg (hCells (hashZ (shaZ l))).toArray, ?_, rfl, hk8⟩
      exact results_cell_row Hr.out _ _ w.heap.size _ _ (0, 0) _ rfl hb8 Tryd.underlying25 rfl (by kernel_rfl)

/-- The hash of bytes, as the document's words make it. -/
theorem sum_any (A : Option Addr) (l : List UInt8) (c : Nat) (w : World) (hl : l.length ≤ c) (hm : l.length ≤ 4294967296) (hr : Rd w A l) (ht : Tbls w) :
    Calls Tryd.prog 6 #[.slice A l.length c] w fun e w' => e = .returned (.agg (hCells (hashZ (shaZ l))).toArray) ∧ Kp (fun _ => False) w w' :=
  callsIn_wide.1 (sum_in A l c w hl hm hr ht)
end Go.Proofs.YtbchfpcdmkldeaaDoor
