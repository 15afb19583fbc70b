/- What wal.texts answers: the texts of the sheets that stand one behind the other. Conditions: the sheets are those of a log of at most 512 sectors; its numbers are of 64 bits. -/
import Derived.Test.YtfcljcikajaedaaGreatDoorMg22
import Derived.Test.YtfcljcikajaedaaGreatDoorMg28
import Derived.Test.YtfcljcikajaedaaGreatDoorMg2
import Derived.Test.YtfcljcikajaedaaGreatDoorMg12
import Derived.Deep.LoopGhost
import Derived.Deep.DeepMust
namespace Go.Proofs.YtfcljcikajaedaaGreatDoor
open Go.RowKit Go.Maps

theorem runF_le (F : Nat → Option Sh) : ∀ k q, (runF F k q).length ≤ k
  | 0, q => Nat.le_refl _
  | k + 1, q => by
    unfold runF
    cases F q with
    | none => exact Nat.zero_le _
    | some s => simp only [List.length_cons]; have := runF_le F k (q + 1); omega
theorem runF_end (F : Nat → Option Sh) : ∀ k q, (runF F k q).length < k → F (q + (runF F k q).length) = none
  | 0, q, h => by simp [runF] at h
  | k + 1, q, h => by
    unfold runF at h ⊢
    cases hq : F q with
    | none => simpa using hq
    | some s =>
      rw [hq] at h
      dsimp only at h ⊢
      rw [List.length_cons] at h ⊢
      have := runF_end F k (q + 1) (by omega)
      rwa [show q + ((runF F k (q + 1)).length + 1) = q + 1 + (runF F k (q + 1)).length by omega]
/-- A log's sheets are no more than its sectors. -/
theorem runF_log (V : Nat → List UInt8) (n f : Nat) (hn : 0 < n) : (runF (sheetF V n) (n + 1) f).length ≤ n := by
  have h1 := runF_le (sheetF V n) (n + 1) f
  rcases Nat.lt_or_ge (runF (sheetF V n) (n + 1) f).length (n + 1) with hlt | hge
  · omega
  · exfalso
    have g0 : 0 < (runF (sheetF V n) (n + 1) f).length := by omega
    have g1 : n < (runF (sheetF V n) (n + 1) f).length := by omega
    have a0 := sheetF_q (runF_get _ _ _ _ _ (List.getElem?_eq_getElem g0))
    have a1 := sheetF_q (runF_get _ _ _ _ _ (List.getElem?_eq_getElem g1))
    generalize (runF (sheetF V n) (n + 1) f)[0] = s0 at a0
    generalize (runF (sheetF V n) (n + 1) f)[n] = s1 at a1
    rw [Nat.add_zero] at a0
    rw [Nat.add_mod_right] at a1
    obtain ⟨e1, e2⟩ := a1
    rw [a0.2] at e2
    injection e2 with e2
    rw [← e2, a0.1] at e1
    omega
section
variable {w : World} {g N : Nat} {F : Nat → Option Sh}
theorem wpList_look_none {ops : Array Oper} {rest : List Oper} {o : Oper} {a : Act} {Q : Exit → Act → World → Prop} (hg : o.guard = none) (m x : Operand)
    (hop : o.op = Op.lookup 87 m x true) (hm : a.eval m = .map (some g)) (h : Fm w g N F) (q : Nat) (hq : q < 18446744073709551616) (hx : a.eval x = .int .u64 q) (hF : F q = none)
    (hn : ∀ s : Sh, wpList Tryz.prog ops Q rest (a.put o.dst (.tuple #[.agg #[.int .u64 s.q, .bool s.last, .string ⟨s.t.toArray⟩], .bool false])) w) : wpList Tryz.prog ops Q (o :: rest) a w :=
  wpList_lookSh hg m x hop hm h q hq hx (fun _ => hn) (fun s hs => by rw [hF] at hs; cases hs)
theorem wpList_look_some {ops : Array Oper} {rest : List Oper} {o : Oper} {a : Act} {Q : Exit → Act → World → Prop} (hg : o.guard = none) (m x : Operand)
    (hop : o.op = Op.lookup 87 m x true) (hm : a.eval m = .map (some g)) (h : Fm w g N F) (q : Nat) (hq : q < 18446744073709551616) (hx : a.eval x = .int .u64 q) (s : Sh) (hF : F q = some s)
    (hs : wpList Tryz.prog ops Q rest (a.put o.dst (.tuple #[.agg #[.int .u64 s.q, .bool s.last, .string ⟨s.t.toArray⟩], .bool true])) w) : wpList Tryz.prog ops Q (o :: rest) a w :=
  wpList_lookSh hg m x hop hm h q hq hx (fun hn => by rw [hF] at hn; cases hn) (fun s' hs' => by rw [hF] at hs'; cases hs'; exact hs)
end
theorem wrap_small {q : Nat} (h : q + 1 < 18446744073709551616) : IntKind.u64.wrap ((q : Int) + 1) = ((q + 1 : Nat) : Int) := by rw [wrap_next, Nat.mod_eq_of_lt h]
/-- Where the outer loop stands. -/
structure OutR (w : World) (ss : List Sh) (total : List (List UInt8)) (i : Nat) (acc : List (List UInt8)) (v : Value) (wx : World) : Prop where
  sum : acc ++ parse [] (ss.drop i) = total
  few : acc.length ≤ i
  row : wx.ownsRow w.heap.size 9 1 v acc.length (strs acc)
  kp : Kp (fun _ => False) w wx
/-- Where the inner loop stands. -/
structure InR (w w1 : World) (ss : List Sh) (total : List (List UInt8)) (j : Nat) (acc : List (List UInt8)) (t : List UInt8) (B : Nat) (v : Value) (wx : World) : Prop where
  sum : acc ++ parse t (ss.drop j) = total
  row : wx.ownsRow w.heap.size 9 1 v acc.length (strs acc)
  kp : Kp (fun _ => False) w wx
  old : ∀ k, v.ownBlock = some k → k < B
  bd : Lib.IsBuilderF 128 5 B B (Lib.byteCells t) wx
  few : t.length ≤ 497 * j
  size : B < wx.heap.size
theorem drop_cons {ss : List Sh} {j : Nat} (h : j < ss.length) : ss.drop j = ss[j] :: ss.drop (j + 1) := List.drop_eq_getElem_cons h

set_option maxRecDepth 100000 in
set_option maxHeartbeats 8000000 in
theorem texts_any {w : World} {g N : Nat} {V : Nat → List UInt8} {n : Nat} (h : Fm w g N (sheetF V n)) (hn0 : 0 < n) (hn : n ≤ 512) (f : Nat) (hf : f + 513 < 18446744073709551616) :
    Calls Tryz.prog 42 #[.map (some g), .int .u64 f] w fun e w' => ∃ v, e = .returned v ∧ w'.ownsRow w.heap.size 9 1 v (textsF V n f).length (strs (textsF V n f)) ∧ Kp (fun _ => False) w w' := by
  obtain ⟨i0, hi0, hz0, hz1, hz2⟩ := strInf
  obtain ⟨ss, hss⟩ : ∃ ss, runF (sheetF V n) (n + 1) f = ss := ⟨_, rfl⟩
  have hlen : ss.length ≤ n := by rw [← hss]; exact runF_log V n f hn0
  have hget : ∀ i s, ss[i]? = some s → sheetF V n (f + i) = some s := fun i s hi => runF_get _ _ _ _ _ (by rw [hss]; exact hi)
  have hend : sheetF V n (f + ss.length) = none := by
    have := runF_end (sheetF V n) (n + 1) f (by rw [hss]; omega)
    rwa [hss] at this
  obtain ⟨total, htot⟩ : ∃ t, textsF V n f = t := ⟨_, rfl⟩
  have hpt : parse [] ss = total := by rw [← htot, textsF, hss]
  rw [htot]
  have HGET := Lib.hid hget
  have HEND := Lib.hid hend
  have HFM := Lib.hid h
  have HPT := Lib.hid hpt
  have HFF := Lib.hid hf
  clear hss hget hend htot hpt h hf
  go_enter Tryz.func42, Tryz.ntmps42
  go_wp2_with fail
  go_step3
  go_wp2_with fail
  go_step3
  go_wp2_with fail
  go_loopg [1, 5] ss.length (fun gh s1 s5 wx => ∃ (i : Nat) (acc : List (List UInt8)), i + gh = ss.length ∧ s1 = .int .u64 ((f + i : Nat) : Int) ∧ OutR w ss total i acc s5 wx)
  case atStart => exact ⟨0, [], by omega, rfl, ⟨by rw [List.drop_zero]; exact HPT.out, Nat.le_refl _, World.ownsRow_nil _ _ _ _, Kp.refl _ _⟩⟩
  case round =>
    obtain ⟨i, acc, hig, rfl, hout⟩ := hrel
    have HO := Lib.hid hout
    clear hout
    have B1 := Lib.hid (builderF_new wr)
    have K1 := Lib.hid (HO.out.kp.alloc (.cells #[.pointer none, .slice none 0 0] 128))
    have R1 := Lib.hid (HO.out.row.alloc (.cells #[.pointer none, .slice none 0 0] 128))
    have hold : ∀ k, u5.ownBlock = some k → k < wr.heap.size := fun k e => (HO.out.row.lt k e).2
    have HOLD := Lib.hid hold
    have hsz : wr.heap.size < (wr.alloc (.cells #[.pointer none, .slice none 0 0] 128)).heap.size := by simp
    have HIG := Lib.hid hig
    have hwb : w.heap.size ≤ wr.heap.size := HO.out.kp.size
    clear hold hig
    go_wp2_with fail
    generalize wr.alloc (.cells #[.pointer none, .slice none 0 0] 128) = w1 at *
    generalize hB : wr.heap.size = B at *
    have HSZ := Lib.hid hsz
    clear hB hsz
    go_loopg [1, 5] (ss.length - i) (fun gi s1 s5 wx => ∃ (j : Nat) (t : List UInt8), j + gi = ss.length ∧ i ≤ j ∧ s1 = .int .u64 ((f + j : Nat) : Int) ∧ s5 = u5 ∧ InR w w1 ss total j acc t B u5 wx)
    case atStart => exact ⟨i, [], by have := HIG.out; omega, Nat.le_refl _, rfl, rfl, HO.out.sum, R1.out, K1.out, HOLD.out, B1.out, Nat.zero_le _, HSZ.out⟩
    case round =>
      obtain ⟨j, t, hjg, hij, rfl, rfl, hin⟩ := hrel
      rename World => wx
      have HI := Lib.hid hin
      clear hin
      have HJG := Lib.hid hjg
      obtain ⟨q, hq⟩ : ∃ q, f + j = q := ⟨_, rfl⟩
      rw [hq]
      have HQ := Lib.hid hq
      have hq64 : q < 18446744073709551616 := by have := HFF.out; omega
      have HQ64 := Lib.hid hq64
      have HFX := Lib.hid (HFM.out.kp HI.out.kp (fun e => e))
      clear hjg hq hq64
      by_cases hlt : j < ss.length
      · obtain ⟨s, hs⟩ : ∃ s, ss[j]? = some s := ⟨_, List.getElem?_eq_getElem hlt⟩
        have HF := Lib.hid (show sheetF V n q = some s by rw [← HQ.out]; exact HGET.out j s hs)
        have HDR := Lib.hid (show ss.drop j = s :: ss.drop (j + 1) by
          have e := drop_cons hlt
          rw [List.getElem?_eq_getElem hlt] at hs
          injection hs with hs
          rw [hs] at e
          exact e)
        have hst := (takeS_lt (sheetF_q HF.out).2).2
        have hw1 : IntKind.u64.wrap ((q : Int) + 1) = ((q + 1 : Nat) : Int) := wrap_small (by have := HFF.out; have := HQ.out; omega)
        have hssz : (⟨s.t.toArray⟩ : ByteArray).size = s.t.length := note_size s.t
        have HSS := Lib.hid hssz
        clear hs hssz
        rcases hl : s.last with _ | _
        · have HSUM := Lib.hid (show acc ++ parse (t ++ s.t) (ss.drop (j + 1)) = total by
            have := HI.out.sum
            rw [HDR.out] at this
            simpa [parse, hl] using this)
          have hb1 := builderF_alloc HI.out.bd (.cells #[.int .u64 s.q, .bool false, .string ⟨s.t.toArray⟩] 120)
          have HB1 := Lib.hid hb1
          clear hb1
          go_wp2_with (first | (refine wpList_look_some rfl (.tmp 10) (.tmp 11) rfl (g := g) (N := N) rfl HFX.out q HQ64.out rfl s HF.out ?_) | fail)
          have hb1 := HB1.out
          refine (Tryz.Builder_WriteString_k B B _ ⟨s.t.toArray⟩ _ hb1 (by
            rw [Lib.byteCells_length, HSS.out]
            have := HI.out.few
            omega) (by have := HI.out.size; simp; omega)).mono ?_
          rintro e w2 ⟨rfl, hb2, hbl, hoth⟩
          have c1 := ((Box.new wx 120 #[.int .u64 s.q, .bool false, .string ⟨s.t.toArray⟩]).others hoth (by have := HI.out.size; omega) (by decide)).cell 1
          simp at c1
          clear hoth
          have hcat : Lib.byteCells t ++ Lib.strCells ⟨s.t.toArray⟩ = Lib.byteCells (t ++ s.t) := by rw [Lib.strCells_eq, ← Lib.byteCells_append]
          rw [hcat] at hb2
          have BD2 := Lib.hid hb2
          have hl2 := hb2.lt
          have HL2 := Lib.hid hl2
          have KB := Lib.hid (((Kp.refl (fun k => B ≤ k) wx).alloc (.cells #[.int .u64 s.q, .bool false, .string ⟨s.t.toArray⟩] 120)).trans (Kp.of_below hbl))
          have K2 := Lib.hid (HI.out.kp.trans_new KB.out (fun b e => .inl (Nat.le_trans hwb e)))
          have R2 := Lib.hid (down_kp HI.out.row KB.out (fun k e => by have := HI.out.old k e; omega))
          clear hb1 hb2 hbl hcat hl2

          clear hl
          go_wp2_with fail
          clear c1
          go_roundg (ss.length - (j + 1))
          case measure => have := HJG.out; omega
          case rel =>
            exact ⟨j + 1, t ++ s.t, by omega, by omega, by rw [← HQ.out]; first | rfl | congr 1, rfl, HSUM.out, R2.out, K2.out, HI.out.old, .inr BD2.out, by rw [List.length_append]; have := HI.out.few; omega, HL2.out⟩
        · have HSUM := Lib.hid (show (acc ++ [t ++ s.t]) ++ parse [] (ss.drop (j + 1)) = total by
            have := HI.out.sum
            rw [HDR.out] at this
            simpa [parse, hl] using this)
          have hb1 := builderF_alloc HI.out.bd (.cells #[.int .u64 s.q, .bool true, .string ⟨s.t.toArray⟩] 120)
          have HB1 := Lib.hid hb1
          clear hb1
          go_wp2_with (first | (refine wpList_look_some rfl (.tmp 10) (.tmp 11) rfl (g := g) (N := N) rfl HFX.out q HQ64.out rfl s HF.out ?_) | fail)
          have hb1 := HB1.out
          refine (Tryz.Builder_WriteString_k B B _ ⟨s.t.toArray⟩ _ hb1 (by
            rw [Lib.byteCells_length, HSS.out]
            have := HI.out.few
            omega) (by have := HI.out.size; simp; omega)).mono ?_
          rintro e w2 ⟨rfl, hb2, hbl, hoth⟩
          have c1 := ((Box.new wx 120 #[.int .u64 s.q, .bool true, .string ⟨s.t.toArray⟩]).others hoth (by have := HI.out.size; omega) (by decide)).cell 1
          simp at c1
          clear hoth
          have hcat : Lib.byteCells t ++ Lib.strCells ⟨s.t.toArray⟩ = Lib.byteCells (t ++ s.t) := by rw [Lib.strCells_eq, ← Lib.byteCells_append]
          rw [hcat] at hb2
          have BD2 := Lib.hid hb2
          have hl2 := hb2.lt
          have HL2 := Lib.hid hl2
          have KB := Lib.hid (((Kp.refl (fun k => B ≤ k) wx).alloc (.cells #[.int .u64 s.q, .bool true, .string ⟨s.t.toArray⟩] 120)).trans (Kp.of_below hbl))
          have K2 := Lib.hid (HI.out.kp.trans_new KB.out (fun b e => .inl (Nat.le_trans hwb e)))
          have R2 := Lib.hid (down_kp HI.out.row KB.out (fun k e => by have := HI.out.old k e; omega))
          clear hb1 hb2 hbl hcat hl2

          clear hl
          go_wp2_with fail
          refine (Tryz.Builder_String_any_k B B (t ++ s.t) w2 (.inr BD2.out) (by have := HL2.out; omega)).mono ?_
          rintro e w3 ⟨rfl, _, hbl, _⟩
          clear c1
          have KB3 := Lib.hid (Kp.of_below hbl)
          have K3 := Lib.hid (K2.out.trans_new KB3.out (fun b e => .inl (Nat.le_trans hwb e)))
          have R3 := Lib.hid (down_kp R2.out KB3.out (fun k e => by have := HI.out.old k e; omega))
          have hw3 := Lib.hid K3.out.size
          have HFEW := Lib.hid (show acc.length ≤ 512 by have := HO.out.few; omega)
          clear hbl
          go_wp2_with (at_builtin; go_must (refine wpList_append_own _ rfl (.tmp 24) (.tmp 26) 33 rfl w.heap.size 9 i0 (.string ⟨#[]⟩) 1 16 Tryz.underlying33 hi0 hz0 hz1 hz2 rfl (by decide) u5 acc.length (strs acc) rfl (R3.out.alloc _) ⟨w3.heap.size, 0, none⟩ 1 1 [.string ⟨(t ++ s.t).toArray⟩] rfl rfl (cell_one_new _ _ _) (by intro u hu; simp only [List.mem_cons, List.not_mem_nil, or_false] at hu; subst hu; rfl) (by have := HFEW.out; unfold maxLen; omega) (by have := HFEW.out; omega) (by have := hw3.out; simp; omega) ?_; intro v' w4 hown4 hgr4 _; have R4 := Lib.hid hown4; have G4 := Lib.hid hgr4; clear hown4 hgr4))
          go_roundg (ss.length - (j + 1))
          case measure => have := HIG.out; omega
          case rel =>
            refine ⟨j + 1, acc ++ [t ++ s.t], by omega, by rw [← HQ.out]; first | rfl | congr 1, HSUM.out, by rw [List.length_append]; have := HO.out.few; simp; omega, ?_, ?_⟩
            · rw [List.length_append, strs_snoc]
              exact R4.out
            · exact (K3.out.alloc _).grown G4.out (fun k e => .inl ((R3.out.lt k e).1))
      · have hjl : j = ss.length := by have := HJG.out; omega
        have HF := Lib.hid (show sheetF V n q = none by rw [← HQ.out, hjl]; exact HEND.out)
        have HT := Lib.hid (show acc = total by
          have := HI.out.sum
          rw [hjl, List.drop_length] at this
          simpa [parse] using this)
        clear hjl
        go_wp2_with (first | (refine wpList_look_none rfl (.tmp 10) (.tmp 11) rfl (g := g) (N := N) rfl HFX.out q HQ64.out rfl HF.out ?_; intro s0) | fail)
        rw [Exit.noGoto_ret]
        go_ret
        rw [← HT.out]
        exact ⟨_, rfl, HI.out.row.alloc _, HI.out.kp.alloc _⟩
end Go.Proofs.YtfcljcikajaedaaGreatDoor
