/- The document's own disk: a write reaches it; the power goes; an act. No condition. -/
import Derived.Test.YtfcljcikajaedaaGreatDoorMg14
import Derived.Deep.DeepCutAuto
import Derived.Deep.CutRange
import Derived.Deep.CutBlock
namespace Go.Proofs.YtfcljcikajaedaaGreatDoor
open Go.RowKit Go.Maps

theorem strInf : ∃ i, Tryz.prog.info? 9 = some i ∧ i.zero = some (.string ⟨#[]⟩) ∧ i.size = 1 ∧ i.bytes = 16 := by
  have h : (Tryz.prog.info? 9).map (fun i => (i.zero, i.size, i.bytes)) = some (some (.string ⟨#[]⟩), 1, 16) := by kernel_rfl
  obtain ⟨i, h1, h2, h3, h4⟩ := info_parts h
  exact ⟨i, h1, h2, h3, h4⟩
theorem infoRef : (Tryz.prog.info? 37).map (·.size) = some 6 := by kernel_rfl
theorem rcs_one (d : Dm) (vo vw : Value) (h1 : vo.oneCell' = true) (h2 : vw.oneCell' = true) : ∀ v ∈ (rcs d vo vw).toList, v.oneCell' = true := fun v hv => by
  simp only [rcs, List.mem_cons, List.not_mem_nil, or_false] at hv
  rcases hv with rfl | rfl | rfl | rfl | rfl | rfl
  · exact h1
  · exact h2
  all_goals rfl
theorem put_row {W w1 : World} {B : Nat} {e : TypeId} {v' : Value} {n : Nat} {xs : List Value} {o : Option Nat} (hn : 0 < n) (h : w1.ownsRow B e 1 v' (0 + n) ([] ++ xs)) (hg : W.grownBy w1 o) (ho : o = none := by rfl) : ∃ g cp, v' = .slice (some ⟨g, 0, none⟩) n cp ∧ w1.ownsRow B e 1 (.slice (some ⟨g, 0, none⟩) n cp) n xs ∧ W.grownBy w1 none := by
  rw [Nat.zero_add, List.nil_append] at h
  subst ho
  rcases h.2 with ⟨_, h0⟩ | ⟨g, cp, cur, hv, _⟩
  · omega
  · subst hv
    exact ⟨g, cp, rfl, h, hg⟩
theorem own_ne {w : World} {B : Nat} {e t : TypeId} {n g k cp : Nat} {xs : List Value} {cs : Array Value} (h : w.ownsRow B e 1 (.slice (some ⟨g, 0, none⟩) n cp) n xs) (hb : Box w k t cs) (hne : e ≠ t) : ¬ g = k := by
  rintro rfl
  obtain ⟨cur, hc⟩ := own_block h rfl
  exact Box.type_ne (t := e) hc hb hne rfl
theorem Kp.of_put {w0 w5 : World} {g : Nat} (b : Nat) (v : Value) (hk : Kp (fun k => k = g) (w0.setCell ⟨b, 0, none⟩ v) w5) : Kp (fun k => k = b ∨ k = g) w0 w5 := ((Kp.one w0 b 0 v).mono fun _ _ e => .inl e).trans (hk.mono fun _ _ e => .inr e)
set_option maxRecDepth 100000 in
set_option maxHeartbeats 2000000 in
theorem put_any {w : World} {vo vw : Value} {d : Dm} (h : Rf w vo vw d) (a : Nat) (b : List UInt8) (ha : a < d.on.length) (hf : d.on.length ≤ 4096) :
    Calls Tryz.prog 82 #[.agg (rcs d vo vw), .agg #[.int .i64 a, .string ⟨b.toArray⟩]] w fun e w' => ∃ vo', e = .returned (.agg (rcs d vo' vw)) ∧ Rf w' vo' vw { d with on := d.on.set a b } ∧ Kp (fun _ => False) w w' := by
  obtain ⟨bo, co, hvo, hco, hcell⟩ := h.on.cell (by omega)
  obtain ⟨iS, s1, s2, s3, s4⟩ := strInf
  have Hr : Hid (Tryz.f82.results = #[.cell 4 37]) := Lib.hid (by kernel_rfl)
  have ho5 : vw.oneCell' = true := by obtain ⟨_, A, cap, hv, _⟩ := h.wt; rw [hv]; rfl
  have H := Lib.hid h
  subst hvo
  have h3 : ∃ W, W = ((w.alloc (.cells (rcs d (.slice (some ⟨bo, 0, none⟩) d.on.length co) vw) 37)).alloc (.cells #[.int .i64 a, .string ⟨b.toArray⟩] 142)).alloc (.cells #[.slice none 0 0, .slice none 0 0, .bool false, .int .i64 0, .string ⟨#[]⟩, .int .u64 0] 37) := ⟨_, rfl⟩
  obtain ⟨W, hW⟩ := h3
  have b0 : Box W w.heap.size 37 (rcs d (.slice (some ⟨bo, 0, none⟩) d.on.length co) vw) := by rw [hW]; exact ((Box.new w _ _).alloc _).alloc _
  have b1 : Box W (w.heap.size + 1) 142 #[.int .i64 a, .string ⟨b.toArray⟩] := by
    have := (Box.new (w.alloc (.cells (rcs d (.slice (some ⟨bo, 0, none⟩) d.on.length co) vw) 37)) 142 #[.int .i64 a, .string ⟨b.toArray⟩]).alloc (.cells #[.slice none 0 0, .slice none 0 0, .bool false, .int .i64 0, .string ⟨#[]⟩, .int .u64 0] 37)
    rw [World.size_alloc] at this
    rw [hW]
    exact this
  have b2 : Box W (w.heap.size + 1 + 1) 37 #[.slice none 0 0, .slice none 0 0, .bool false, .int .i64 0, .string ⟨#[]⟩, .int .u64 0] := by
    have := Box.new ((w.alloc (.cells (rcs d (.slice (some ⟨bo, 0, none⟩) d.on.length co) vw) 37)).alloc (.cells #[.int .i64 a, .string ⟨b.toArray⟩] 142)) 37 #[.slice none 0 0, .slice none 0 0, .bool false, .int .i64 0, .string ⟨#[]⟩, .int .u64 0]
    rw [World.size_alloc, World.size_alloc] at this
    rw [hW]
    exact this
  have kW : Kp (fun _ => False) w W := by rw [hW]; exact (((Kp.refl _ w).alloc _).alloc _).alloc _
  have hcW : ∀ j u, (strs d.on)[j]? = some u → W.cell? ((⟨bo, 0, none⟩ : Addr).add j) = some u := fun j u hj => by
    have hc := hcell j u hj
    rw [Addr.add_mid, Nat.zero_add]
    exact (kW.cell (p := ⟨bo, j, none⟩) (World.block_lt_of_cell? w _ hc) (fun h => h)).trans hc
  have HCW := Lib.hid hcW
  have B0 := Lib.hid b0
  have B1 := Lib.hid b1
  have B2 := Lib.hid b2
  have KW := Lib.hid kW
  have HW := Lib.hid hW
  clear h hcell hcW b0 b1 b2 kW hW
  go_enter Tryz.func82, Tryz.ntmps82
  go_upto_region 1 with fail
  rw [← HW.out]
  have y0 : W.cell? ⟨w.heap.size, 0, none⟩ = some (.slice (some ⟨bo, 0, none⟩) d.on.length co) := B0.out.cell 0
  have y1 : W.cell? ⟨w.heap.size + 1, 0, none⟩ = some (.int .i64 a) := B1.out.cell 0
  have y2 : W.cell? ⟨w.heap.size + 1, 1, none⟩ = some (.string ⟨b.toArray⟩) := B1.out.cell 1
  go_wp2_with (first | (at_builtin; refine wpList_append_own _ rfl (.const (.slice none 0 0)) (.tmp 7) 33 rfl W.heap.size 9 iS (.string ⟨#[]⟩) 1 16 Tryz.underlying33 s1 s2 s3 s4 rfl (by decide) _ 0 [] rfl (World.ownsRow_nil _ _ _ _) ⟨bo, 0, none⟩ d.on.length co (strs d.on) rfl (by rw [strs_length, Nat.mul_one]) HCW.out (strs_one _) (by simp only [maxLen]; omega) (by omega) (Nat.le_refl _) ?_; intro v' w1 hown hg hnn; obtain ⟨g, cp, hv', ho1, hg1⟩ := put_row (by omega : 0 < d.on.length) hown hg; subst hv'; have kg := (Kp.refl (fun _ => False) W).grown hg1 (fun k e => by cases e); have B0' := Lib.hid (B0.out.kp kg (fun h => h)); have B1' := Lib.hid (B1.out.kp kg (fun h => h)); have B2' := Lib.hid (B2.out.kp kg (fun h => h)); have KG := Lib.hid kg; have HO := Lib.hid ho1; have n0 : ¬ g = w.heap.size := (own_ne ho1 B0'.out (by decide)); have n2 : ¬ g = w.heap.size + 1 + 1 := (own_ne ho1 B2'.out (by decide)); have z1 : w1.cell? ⟨w.heap.size + 1, 0, none⟩ = some (.int .i64 a) := B1'.out.cell 0; have z2 : w1.cell? ⟨w.heap.size + 1, 1, none⟩ = some (.string ⟨b.toArray⟩) := B1'.out.cell 1; have th := own_there ho1 a 1 (by omega) 0 (by decide); obtain ⟨x0, hx0⟩ := Option.isSome_iff_exists.1 th.1; have fx0 := th.2; rw [Nat.add_zero] at hx0 fx0; have p0 : (w1.setCell ⟨g, a, none⟩ (.string ⟨b.toArray⟩)).cell? ⟨w.heap.size, 0, none⟩ = some (.slice (some ⟨bo, 0, none⟩) d.on.length co) := (B0'.out.far (p := ⟨g, a, none⟩) (fun e => n0 e.symm) _).cell 0; have fp := (B0'.out.far (p := ⟨g, a, none⟩) (fun e => n0 e.symm) (.string ⟨b.toArray⟩)).free 0; have B3 := Lib.hid ((B0'.out.far (p := ⟨g, a, none⟩) (fun e => n0 e.symm) (.string ⟨b.toArray⟩)).put 0 (.slice (some ⟨g, 0, none⟩) d.on.length cp)); have B4 := Lib.hid ((B2'.out.far (p := ⟨g, a, none⟩) (fun e => n2 e.symm) (.string ⟨b.toArray⟩)).far (p := ⟨w.heap.size, 0, none⟩) (by simp; omega) (.slice (some ⟨g, 0, none⟩) d.on.length cp)); clear hown hg hnn kg hg1 ho1 y0 y1 y2 th) | (refine wpList_load_mid rfl 37 (.tmp 2) rfl w.heap.size 0 rfl (rcs d (.slice (some ⟨g, 0, none⟩) d.on.length cp) vw).toList _ (Box.range' (L := (rcs d (.slice (some ⟨g, 0, none⟩) d.on.length cp) vw).toList) B3.out) Tryz.underlying37 rfl infoRef ?_) | (refine dwpList_store_box rfl 37 (.tmp 4) (.tmp 17) rfl (w.heap.size + 1 + 1) (rcs d (.slice (some ⟨g, 0, none⟩) d.on.length cp) vw).toList rfl rfl B4.out rfl infoRef (rcs_one d _ _ rfl ho5) ?_; intro w5 hb5 hk5) | fail)
  have hgw : W.heap.size ≤ g := (HO.out.lt g rfl).1
  have hgw2 : w.heap.size ≤ g := Nat.le_trans KW.out.size hgw
  have k1 := KW.out.trans KG.out
  have k2 := ((k1.setCell (p := ⟨g, a, none⟩) (.inl hgw2) (.string ⟨b.toArray⟩)).setCell (p := ⟨w.heap.size, 0, none⟩) (.inl (Nat.le_refl _)) (.slice (some ⟨g, 0, none⟩) d.on.length cp)).trans_new hk5 (fun k e => .inl (by omega))
  have hset := own_set HO.out a [.string ⟨b.toArray⟩] (by simp; omega)
  have hwt := H.out.wt.kp k2 (fun _ _ _ _ h => h)
  have hstr : (strs d.on).take a ++ [.string ⟨b.toArray⟩] ++ (strs d.on).drop (a + [Value.string ⟨b.toArray⟩].length) = strs (d.on.set a b) := by
    simp only [strs, List.length_singleton, List.set_eq_take_append_cons_drop]
    rw [if_pos (by simpa using ha)]
    simp
  rw [hstr] at hset
  have hon := down_kp hset (Kp.of_put w.heap.size (.slice (some ⟨g, 0, none⟩) d.on.length cp) hk5) (fun k e e2 => by
    simp [Value.ownBlock] at e
    rcases e2 with e2 | e2
    · exact n0 (e.trans e2)
    · exact n2 (e.trans e2))
  refine bodyPost_ret (v := .agg (rcs d (.slice (some ⟨g, 0, none⟩) d.on.length cp) vw)) ?_ rfl ⟨_, rfl, ⟨?_, hwt⟩, k2⟩
  · exact results_cell_row Hr.out _ _ (w.heap.size + 1 + 1) 37 _ (0, 0) _ rfl hb5 Tryz.underlying37 rfl infoRef
  · have := RdR.of_own hon
    simpa using this
end Go.Proofs.YtfcljcikajaedaaGreatDoor
