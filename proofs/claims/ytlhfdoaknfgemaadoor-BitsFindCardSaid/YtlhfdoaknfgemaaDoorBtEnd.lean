/- The number behind the last bit of bytes. Condition: the slice has its bytes. -/
import Derived.Test.YtlhfdoaknfgemaaDoorBtIter
import Derived.Test.YtlhfdoaknfgemaaDoorBtTz
import Derived.Maps.AppendAt
import Derived.Deep.DeepMust
namespace Go.Proofs.YtlhfdoaknfgemaaDoor
open Go.RowKit Go.Shelf
attribute [local go_sem] Oper.semAt_some

/-- A bit of bytes. -/
def bitL (l : List UInt8) (i : Nat) : Bool := (l.getD (i / 8) 0).toNat.testBit (i % 8)
/-- The number behind the last bit. -/
structure BEnd (l : List UInt8) (e : Nat) : Prop where
  off : ∀ i, e ≤ i → bitL l i = false
  on : 0 < e → bitL l (e - 1) = true
theorem len8_is (x : Nat) (hx : x < 256) (h0 : x ≠ 0) : 0 < len8 x ∧ len8 x ≤ 8 ∧ x.testBit (len8 x - 1) = true ∧ ∀ j, j < 8 → len8 x ≤ j → x.testBit j = false := by
  have h : ∀ x : Fin 256, x.val ≠ 0 → 0 < len8 x.val ∧ len8 x.val ≤ 8 ∧ x.val.testBit (len8 x.val - 1) = true ∧ ∀ j, j < 8 → len8 x.val ≤ j → x.val.testBit j = false := by decide +kernel
  exact h ⟨x, hx⟩ h0
theorem bend_none (l : List UInt8) (h : ∀ i, i < l.length → l.getD i 0 = 0) : BEnd l 0 := by
  refine ⟨fun i _ => ?_, fun h => by omega⟩
  unfold bitL
  rcases Nat.lt_or_ge (i / 8) l.length with hi | hi
  · rw [h _ hi]; simp
  · rw [List.getD_eq_getElem?_getD, List.getElem?_eq_none hi]; simp
theorem bend_at (l : List UInt8) (k : Nat) (_hk : k < l.length) (h0 : l.getD k 0 ≠ 0) (h : ∀ i, k < i → i < l.length → l.getD i 0 = 0) : BEnd l (k * 8 + len8 (l.getD k 0).toNat) := by
  have hx : (l.getD k 0).toNat ≠ 0 := fun e => h0 (UInt8.toNat_inj.1 (by rw [e]; rfl))
  obtain ⟨a, b, c, d⟩ := len8_is _ (l.getD k 0).toNat_lt hx
  refine ⟨fun i hi => ?_, fun _ => ?_⟩
  · unfold bitL
    rcases Nat.lt_trichotomy (i / 8) k with h1 | h1 | h1
    · omega
    · rw [h1]
      exact d _ (Nat.mod_lt _ (by decide)) (by omega)
    · rcases Nat.lt_or_ge (i / 8) l.length with hi2 | hi2
      · rw [h _ h1 hi2]; simp
      · rw [List.getD_eq_getElem?_getD, List.getElem?_eq_none hi2]; simp
  · unfold bitL
    have e1 : (k * 8 + len8 (l.getD k 0).toNat - 1) / 8 = k := by omega
    have e2 : (k * 8 + len8 (l.getD k 0).toNat - 1) % 8 = len8 (l.getD k 0).toNat - 1 := by omega
    rw [e1, e2]
    exact c
theorem len8_le (x : UInt8) : len8 x.toNat ≤ 8 := by
  by_cases h : x.toNat = 0
  · rw [h]; decide
  · exact (len8_is _ x.toNat_lt h).2.1
theorem run_loadInt (w : World) (g : Nat) (z : Int) (hc : w.cell? ⟨g, 0, none⟩ = some (.int .i64 z)) : (loadVar 3 ⟨g, 0, none⟩).run Tryd.prog w = .ok (.int .i64 z) w := by
  have hu : Tryd.prog.underlying 3 = some (.int .i64) := Tryd.underlying3
  have hi : (Tryd.prog.info? 3).map (·.size) = some 1 := by kernel_rfl
  simp [loadVar, hc, go_sem]
theorem results_cell_int {fn : Func} {p : Tmp} (h : fn.results = #[.cell p 3]) (tmps : Array Value) (w : World) (g : Nat) (z : Int)
    (hp : tmps.getD p undef = .pointer (some ⟨g, 0, none⟩)) (hc : w.cell? ⟨g, 0, none⟩ = some (.int .i64 z)) :
    (results fn tmps).run Tryd.prog w = .ok (.int .i64 z) w := by
  have hp' : tmps[p]?.getD undef = .pointer (some ⟨g, 0, none⟩) := by simpa using hp
  simp [results, h, hp', asAddr, run_loadInt w g z hc]
theorem kpK_b {w : World} {S : Nat → Prop} (hS : ∀ k, w.heap.size ≤ k → S k) (W : World) (l : Nat) (o o' : Obj) (hl : w.heap.size ≤ l) (_ : W.heap[l]? = some o) (_ : o.isCells = false) (_ : o.isWalk = false) : Kp S W (W.putObj l o') :=
  (Kp.refl S W).grown (grownBy_putObj' W l o') (fun k e => by cases e; exact .inr (hS _ hl))
theorem Box.off {W W' : World} {g : Nat} {t : TypeId} {cs : Array Value} {row : Option Nat} (h : Box W g t cs) (hg : W.grownBy W' row) (hr : ∀ r, row = some r → ∃ o : Obj, W.heap[r]? = some o ∧ o.isCells = false) : Box W' g t cs :=
  h.grown hg fun e => by
    obtain ⟨o, ho, hc⟩ := hr g e.symm
    unfold Box at h
    rw [h] at ho
    cases ho
    cases hc
/-- The call hands out the bytes, all of them from the end, or the first few so. -/
theorem back_stops (F : Fence) (n : Nat) (h20 : F.fn 29) (hro : F.round = none) (hn : 1 ≤ n) (Bs b o m c : Nat) (l : List UInt8) (hmx : l.length ≤ 1048576) (hm : l.length = m)
    (w : World) (hcs : w.cell? ⟨Bs, 0, none⟩ = some (.slice (some ⟨b, o, none⟩) l.length c)) (hcn : ∀ j u, l[j]? = some u → w.cell? ⟨b, o + j, none⟩ = some (.int .u8 u.toNat)) :
    SeqStopsK F n Tryd.prog 29 #[.pointer (some ⟨Bs, 0, none⟩)] (fun x : Fin m => backAt l x.1) (Kp (fun k => k ≠ Bs ∧ k ≠ b)) (fun ys => ys = List.finRange m) (fun pre => ∃ k, k ≤ m ∧ pre = (List.finRange m).take k) m w := fun y J Jx W hW hJ _ hY h0 =>
  back1_in F n h20 hro hn y Bs b o m c l hmx hm J Jx (fun k pre w h => hJ pre w (w.drewN k) none h ⟨rfl, rfl, rfl, Nat.le_refl _, fun _ _ _ => rfl⟩ (fun r e => by cases e)) hY W
    ((hW.cell (p := ⟨Bs, 0, none⟩) (World.block_lt_of_cell? w ⟨Bs, 0, none⟩ hcs)).trans hcs) (fun j u hu => (hW.cell (p := ⟨b, o + j, none⟩) (World.block_lt_of_cell? w ⟨b, o + j, none⟩ (hcn j u hu))).trans (hcn j u hu)) h0

/-- What the loop keeps: nothing but zeros so far. -/
structure EndI (w : World) (l : List UInt8) (m : Nat) (sv : Value) (pre : List (Fin m)) (z : Int) (W : World) : Prop where
  box : Box W w.heap.size 3 #[.int .i64 z]
  bs : Box W (w.heap.size + 1) 39 #[sv]
  kp : Kp (fun _ => False) w W
def zer (l : List UInt8) (m : Nat) (pre : List (Fin m)) : Prop := ∀ y ∈ pre, l.getD (m - 1 - y.1) 0 = 0
theorem EndI.off {w : World} {l : List UInt8} {m : Nat} {sv : Value} {pre : List (Fin m)} {z : Int} {W W' : World} {row : Option Nat} (h : EndI w l m sv pre z W) {B : Nat} (hB : w.heap.size ≤ B) (hg : W.grownBy W' row) (hr : ∀ r, row = some r → B ≤ r ∧ ∃ o : Obj, W.heap[r]? = some o ∧ o.isCells = false) : EndI w l m sv pre z W' :=
  ⟨h.box.off hg (fun r e => (hr r e).2), h.bs.off hg (fun r e => (hr r e).2), h.kp.grown hg (fun k e => .inl (Nat.le_trans hB (hr k e).1))⟩

theorem take_before (m k : Nat) (hk : k ≤ m) (pre : List (Fin m)) (x : Fin m) (h : pre ++ [x] = (List.finRange m).take k) (y : Fin m) (hy : y.1 < x.1) : y ∈ pre := by
  have hl := congrArg List.length h
  simp at hl
  have hx := congrArg (fun q => q[pre.length]?) h
  have hk' : pre.length < k := by omega
  have hm' : pre.length < m := by omega
  simp [hk', hm'] at hx
  have hx1 : x.1 = pre.length := by rw [hx]
  have hyy := congrArg (fun q => q[y.1]?) h
  have h1 : y.1 < pre.length := by omega
  have h2 : y.1 < k := by omega
  simp [h1, h2, List.getElem?_append_left] at hyy
  rw [← hyy]
  exact List.getElem_mem h1
set_option maxRecDepth 100000 in
set_option maxHeartbeats 4000000 in
theorem end_in (b o c : Nat) (l : List UInt8) (w : World) (hmx : l.length ≤ 1048576) (hpos : 0 < l.length) (hcn : ∀ j u, l[j]? = some u → w.cell? ⟨b, o + j, none⟩ = some (.int .u8 u.toNat)) :
    CallsIn Fence.wide 3 Tryd.prog 22 #[.slice (some ⟨b, o, none⟩) l.length c] w fun e w' => ∃ z : Nat, e = .returned (.int .i64 (z : Int)) ∧ BEnd l z ∧ Kp (fun _ => False) w w' := by
  have hF : ∀ f, Fence.wide.fn f := fun _ => trivial
  have hro : Fence.wide.round = none := rfl
  have hb : b < w.heap.size := World.block_lt_of_cell? w ⟨b, o + 0, none⟩ (hcn 0 l[0] (List.getElem?_eq_getElem hpos))
  obtain ⟨m, hm⟩ : ∃ m, l.length = m := ⟨_, rfl⟩
  have HCN := Lib.hid hcn
  have HM := Lib.hid hm
  have Hpos := Lib.hid hpos
  clear hcn hpos
  rw [hm] at hmx ⊢
  clear hm
  have hbk := Lib.hid (back_in Fence.wide 2 (hF _) hro (some ⟨b, o, none⟩) m c (w.alloc (.cells #[.int .i64 0] 3)))
  refine callsIn_of_wp_marks Tryd.func22 rfl (hF _) ?_ hro
  simp only [Tryd.ntmps22, List.size_toArray, List.length_cons, List.length_nil, Nat.reduceAdd, Nat.reduceSub, Array.replicate_succ, Array.replicate_zero, List.push_toArray, List.append_toArray, List.nil_append, List.cons_append]
  gi_wp2_with (first | (gi_at_call 27; refine (hbk.out).mono ?_; rintro e w' ⟨rfl, rfl⟩) | fail)
  have hI0 : EndI w l m (.slice (some ⟨b, o, none⟩) m c) [] 0 ((w.alloc (.cells #[.int .i64 0] 3)).alloc (.cells #[.slice (some ⟨b, o, none⟩) m c] 39)) := by
    have b2 := Box.new (w.alloc (.cells #[.int .i64 0] 3)) 39 #[.slice (some ⟨b, o, none⟩) m c]
    rw [World.size_alloc] at b2
    exact ⟨(Box.new w _ _).alloc _, b2, ((Kp.refl _ w).alloc _).alloc _⟩
  have hsz : ((w.alloc (.cells #[.int .i64 0] 3)).alloc (.cells #[.slice (some ⟨b, o, none⟩) m c] 39)).heap.size = w.heap.size + 2 := by simp
  generalize ((w.alloc (.cells #[.int .i64 0] 3)).alloc (.cells #[.slice (some ⟨b, o, none⟩) m c] 39)) = W0 at *
  have hcn0 : ∀ j u, l[j]? = some u → W0.cell? ⟨b, o + j, none⟩ = some (.int .u8 u.toNat) := fun j u hu =>
    (hI0.kp.cell (p := ⟨b, o + j, none⟩) (World.block_lt_of_cell? w _ (HCN.out j u hu)) (fun h => h)).trans (HCN.out j u hu)
  have hcs0 : W0.cell? ⟨w.heap.size + 1, 0, none⟩ = some (.slice (some ⟨b, o, none⟩) l.length c) := by rw [HM.out]; exact hI0.bs.cell 0
  refine wpIn_rangeFunc_ownH hro (by omega) (gf := 29) (lb := #[.pointer (some ⟨w.heap.size + 1, 0, none⟩)]) rfl (hF _) (enters_of Tryd.func29 (by kernel_rfl) rfl)
    (back_stops Fence.wide (3 - 1) (hF _) hro (by omega) (w.heap.size + 1) b o m c l (by rw [HM.out]; exact hmx) HM.out W0 hcs0 hcn0) (fun h k => h.trans k) (kpK_b (fun k hk => by omega)) (Below.refl _ _) (fun _ => rfl)
    (fun (pre : List (Fin m)) W => zer l m pre ∧ EndI w l m (.slice (some ⟨b, o, none⟩) m c) pre 0 W)
    (fun cd pre W => cd = .ret ∧ ∃ pre' x, pre = pre' ++ [x] ∧ zer l m pre' ∧ l.getD (m - 1 - x.1) 0 ≠ 0 ∧ EndI w l m (.slice (some ⟨b, o, none⟩) m c) pre (((m - 1 - x.1) * 8 + len8 (l.getD (m - 1 - x.1) 0).toNat : Nat) : Int) W)
    (fun s A B row hs hg hr => ⟨hs.1, EndI.off hs.2 (by omega) hg hr⟩)
    (fun _ s A B row hs hg hr => by obtain ⟨h1, p, x, h2, h3, h4, h5⟩ := hs; exact ⟨h1, p, x, h2, h3, h4, EndI.off h5 (by omega) hg hr⟩)
    ⟨fun y hy => (by cases hy), hI0⟩
    (fun x a' _ => a' = { tmps := #[.slice (some ⟨b, o, none⟩) m c, undef, .pointer (some ⟨w.heap.size, 0, none⟩), .int .i64 ((l.length - 1 - x.1 : Nat) : Int), .int .u8 (l.getD (l.length - 1 - x.1) 0).toNat, .slice (some ⟨b, o, none⟩) m c, .func (.func 29) #[] #[.pointer (some ⟨w.heap.size + 1, 0, none⟩)], .int .i64 ((l.length - 1 - x.1 : Nat) : Int), .int .u8 (l.getD (l.length - 1 - x.1) 0).toNat, undef, undef, undef, undef, undef, undef, undef], defers := [] })
    (fun x a' _ X Y row hs hg hr => hs)
    ?assign ?body ?done ?stop
  case assign =>
    rintro y pre x W K hi hK
    have hK' := hK _ _ ((KeepsOthers.refl W).from _) (Kp.refl _ W) hi rfl
    have HK := Lib.hid hK'
    clear hK hK'
    have hc : ∃ i v, backAt l x.1 = #[.int .i64 i, .int .u8 v] ∧ (((l.length - 1 - x.1 : Nat)) : Int) = i ∧ (((l.getD (l.length - 1 - x.1) 0).toNat : Nat) : Int) = v := ⟨_, _, rfl, rfl, rfl⟩
    obtain ⟨i, v, hc, h1, h2⟩ := hc
    rw [hc]
    rw [h1, h2] at HK
    clear hc h1 h2
    gi_wp2
    exact HK.out
  case body =>
    rintro y pre x a' W hl ⟨_, _⟩ ⟨hz, hI⟩ rfl hlt
    rw [HM.out]
    have hx1 := x.2
    obtain ⟨i, hi⟩ : ∃ i, m - 1 - x.1 = i := ⟨_, rfl⟩
    obtain ⟨v, hv⟩ : ∃ v, l.getD i 0 = v := ⟨_, rfl⟩
    have him : (i : Int) ≤ 1048576 := by omega
    have hgn : 0 < m := by omega
    have HI := Lib.hid hI
    have HX : Hid (m - 1 - x.1 = i) := Lib.hid hi
    have HV : Hid (l.getD i 0 = v) := Lib.hid hv
    have Hz := Lib.hid hz
    rw [hi, hv]
    clear hi hv hz hI hx1
    by_cases h0 : v = 0
    · have HZ0 := Lib.hid h0
      subst h0
      gi_wp2
      refine ⟨(KeepsOthers.refl W).from _, Kp.refl _ W, ?_, ⟨HI.out.box, HI.out.bs, HI.out.kp⟩⟩
      intro y hy
      rcases List.mem_append.1 hy with hy | hy
      · exact Hz.out y hy
      · obtain rfl : y = x := by simpa using hy
        rw [HX.out, HV.out]
    · have hne : ((v.toNat : Int) != 0) = true := by
        have : v.toNat ≠ 0 := fun e => h0 (UInt8.toNat_inj.1 (by rw [e]; rfl))
        simp; omega
      have hl8 := len8_le v
      have HL := Lib.hid (len8_any v W)
      have HN := Lib.hid h0
      clear h0
      obtain ⟨n8, hn8⟩ : ∃ n8, len8 v.toNat = n8 := ⟨_, rfl⟩
      rw [hn8] at hl8 HL
      have HN8 := Lib.hid hn8
      have hc := HI.out.box.cell 0
      have hf := HI.out.box.free 0
      clear hn8
      simp at hc
      gi_wp2_with (first | (gi_at_call 28; refine (callsIn_wide.2 HL.out).mono ?_; rintro e w' ⟨rfl, rfl⟩) | fail)
      refine ⟨(KeepsOthers.setCell W _ _).from _, rfl, pre, x, rfl, Hz.out, by rw [HX.out, HV.out]; exact HN.out, ?_⟩
      rw [HX.out, HV.out, HN8.out]
      have e : ((i : Int) * 8 + n8) = ((i * 8 + n8 : Nat) : Int) := by omega
      rw [e]
      exact ⟨HI.out.box.put 0 (.int .i64 ((i * 8 + n8 : Nat) : Int)), HI.out.bs.far (p := ⟨w.heap.size, 0, none⟩) (by simp) _, HI.out.kp.setCell (p := ⟨w.heap.size, 0, none⟩) (.inl (Nat.le_refl _)) _⟩
  case done =>
    rintro D xs W hD rfl ⟨hz, hI⟩ hdef
    have hend : BEnd l 0 := bend_none l fun i hi => by
      have h1 : i < m := by have := HM.out; omega
      have := hz ⟨m - 1 - i, by omega⟩ (List.mem_finRange _)
      rwa [show m - 1 - (m - 1 - i) = i by omega] at this
    have HE := Lib.hid hend
    have HI := Lib.hid hI
    have hc := HI.out.box.cell 0
    have hf := HI.out.box.free 0
    simp at hc
    clear hz hI hend
    gi_wp2
    have hdef2 : (W.setCell ⟨w.heap.size, 0, none⟩ (.int .i64 0)).heap[D]? = some (.deferred (some [])) := by
      rw [Below.heap_setCell _ _ _ _ (by show D ≠ w.heap.size; omega)]
      exact hdef
    refine ⟨by simp, .inl ⟨_, _, rfl, run_takeDeferred hdef2, ?_⟩⟩
    have b1 := HI.out.box.put 0 (.int .i64 0)
    have b2 := b1.off (grownBy_putObj' (W.setCell ⟨w.heap.size, 0, none⟩ (.int .i64 0)) D (.deferred none)) (fun r e => by cases e; exact ⟨_, hdef2, rfl⟩)
    have k1 := HI.out.kp.setCell (p := ⟨w.heap.size, 0, none⟩) (.inl (Nat.le_refl _)) (.int .i64 0)
    have k2 := k1.grown (grownBy_putObj' (W.setCell ⟨w.heap.size, 0, none⟩ (.int .i64 0)) D (.deferred none)) (fun k e => .inl (by cases e; omega))
    exact ⟨_, results_cell_int rfl _ _ w.heap.size 0 rfl (b2.cell 0), 0, rfl, HE.out, k2⟩
  case stop =>
    rintro D cd pre W hD ⟨k, hk, hpre⟩ ⟨rfl, pre', x, hp, hz, hne, hI⟩ hdef
    have hend : BEnd l ((m - 1 - x.1) * 8 + len8 (l.getD (m - 1 - x.1) 0).toNat) := by
      have hx := x.2
      have hm := HM.out
      refine bend_at l _ (by omega) hne fun i h1 h2 => ?_
      have hy := take_before m k hk pre' x (hp.symm.trans hpre) ⟨m - 1 - i, by omega⟩ (by show m - 1 - i < x.1; omega)
      have := hz _ hy
      rwa [show m - 1 - (m - 1 - i) = i by omega] at this
    have HE := Lib.hid hend
    have HI := Lib.hid hI
    generalize (m - 1 - x.1) * 8 + len8 (l.getD (m - 1 - x.1) 0).toNat = z at *
    clear hz hI hend hne
    gi_wp2
    refine ⟨by simp, .inl ⟨_, _, rfl, run_takeDeferred hdef, ?_⟩⟩
    have b2 := HI.out.box.off (grownBy_putObj' W D (.deferred none)) (fun r e => by cases e; exact ⟨_, hdef, rfl⟩)
    have k2 := HI.out.kp.grown (grownBy_putObj' W D (.deferred none)) (fun k e => .inl (by cases e; omega))
    exact ⟨_, results_cell_int rfl _ _ w.heap.size (z : Int) rfl (b2.cell 0), z, rfl, HE.out, k2⟩
theorem end_any (b o c : Nat) (l : List UInt8) (w : World) (hmx : l.length ≤ 1048576) (hpos : 0 < l.length) (hcn : ∀ j u, l[j]? = some u → w.cell? ⟨b, o + j, none⟩ = some (.int .u8 u.toNat)) :
    Calls Tryd.prog 22 #[.slice (some ⟨b, o, none⟩) l.length c] w fun e w' => ∃ z : Nat, e = .returned (.int .i64 (z : Int)) ∧ BEnd l z ∧ Kp (fun _ => False) w w' :=
  callsIn_wide.1 (end_in b o c l w hmx hpos hcn)
end Go.Proofs.YtlhfdoaknfgemaaDoor
