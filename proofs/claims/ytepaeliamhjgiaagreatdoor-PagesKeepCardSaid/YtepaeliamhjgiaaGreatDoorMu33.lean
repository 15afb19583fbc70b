/- The law of pages, part 33 of 55: PgOMap PgOOrd. -/
import Derived.Test.YtepaeliamhjgiaaGreatDoorMu1
import Derived.Test.YtepaeliamhjgiaaGreatDoorMu32
import Derived.Test.YtepaeliamhjgiaaGreatDoorMu30
set_option maxHeartbeats 16000000
set_option maxRecDepth 100000
namespace Go.Proofs.YtepaeliamhjgiaaGreatDoor
open Go.RowKit Go.Maps Go.Shelf
theorem wpList_anyPg {w : World} {g n : Nat} {m : Bm} {ops : Array Oper} {rest : List Oper} {o : Oper} {a : Act} {Q : Exit -> Act -> World -> Prop} (hg : o.guard = none) (x y : Operand)
  (hop : o.op = Op.lookup 78 x y true) (hm : a.eval x = .map (some g)) (h : Pgm w g n m) (i : Nat) (hi : i < 9223372036854775808) (hx : a.eval y = .int .i64 i)
  (hK : ∀ (p : List UInt8) (c : Bool), p.length = 512 -> (c = true -> m i = some p) -> (c = false -> m i = none) -> wpList Tryz.prog ops Q rest (a.put o.dst (.tuple #[.agg (bcs p).toArray, .bool c])) w) :
  wpList Tryz.prog ops Q (o :: rest) a w :=
 wpList_lookPg hg x y hop hm h i hi hx (fun h1 p hp => hK p false hp (fun e => by cases e) (fun _ => h1)) (fun p h1 hp => hK p true hp (fun _ => h1) (fun e => by cases e))
theorem exec_load_mid {P : Program} {op : Oper} {a : Act} {w : World} (ty : TypeId) (x : Operand) (ho : op.op = .load ty x) (b o : Nat) (hx : a.eval x = .pointer (some ⟨b, o, none⟩)) (cs : List Value) (d : TypeDesc) (hr : w.rangeAt b o cs) (hu : P.underlying ty = some d) (hd : d.isRow = true) (hi : (P.info? ty).map (·.size) = some cs.length) :
  (execOp a.eval op).run P w = .ok (.value (.agg cs.toArray)) w := by
 unfold execOp
 simp only [ho, hx, Instr.loadAt, Instr.sureAddr, Sem.run_bind, Sem.run_pure, Result.andThen_ok, run_loadVar_mid w b o ty cs d hr hu hd hi]
theorem readMap_any {W : World} {F G : Nat -> Prop} {go gs gl b n c : Nat} {l : Lm} {d : Dm} {note l0 P : List UInt8} {cm : List Value} {vl vc vt : Value} {A : Option Addr} {dead : Bool} {bs : List Bm}
  (hb : Box W go 89 #[.pointer (some ⟨gs, 0, none⟩), vt, .slice A bs.length c]) (hs : Stb W gs gl b note (Bt.mcs Bt.nof n) vl vc cm dead) (hl : Box W gl 130 (lcs b l)) (ht : BtR G W n bs A c) (hlen : bs.length <= 513) (hD : Dsk F W b d) (hL : l.h.n <= 512)
  (h1 : 1 <= n) (h2 : n <= 1024) (hrd : d.readS ((2 + l.h.n + 0 : Nat) : Int) = (l0, 0)) (hl0 : l0.length = 512) (hP : (overs bs 0).getD l0 = P) (hoff : ∀ i, n <= i -> Bt.bitL P i = false) (hon : Bt.bitL P 0 = true) :
  Calls Tryz.prog 45 #[.pointer (some ⟨go, 0, none⟩)] W fun e W' => e = .returned (.int .i64 0) /\ Stb W' gs gl b note (Bt.mcs (Bt.bitL P) n) vl vc cm dead /\ Kp (fun k => k = gs) W W' := by
 obtain ⟨L, hLn⟩ : ∃ L, l.h.n = L := ⟨_, rfl⟩
 rw [hLn] at hL hrd
 obtain ⟨um, hum⟩ : ∃ um, Bt.mcs Bt.nof n = um := ⟨_, rfl⟩
 have HUM := hHd hum
 rw [hum] at hs
 have HLN := hHd hLn
 have HL := hHd (show L <= 100000 by omega)
 have HRD := hHd hrd
 have HL0 := hHd hl0
 have HPP := hHd hP
 have HOFF := hHd hoff
 have HON := hHd hon
 have HN1 := hHd h1
 have HN2 := hHd h2
 have HHAS := hHd (show Bt.hasB (Bt.bitL P) n 0 = true by unfold Bt.hasB; rw [show ((0 : Int)).toNat = 0 from rfl, hon, Bool.or_true])
 have BW := hHd hb
 have OBW := hHd (show W.cell? ⟨go, 0, none⟩ = some (.pointer (some ⟨gs, 0, none⟩)) from hb.cell 0)
 have SW := hHd hs
 have TW := hHd ht
 have HGG := hHd (show go ≠ gs from fun e => (hs.2.2.type_ne hb (by decide)) e.symm)
 have kd : Kp (fun _ => False) W W.drew := (Kp.refl _ W).drew
 have OB1 := hHd (show W.drew.cell? ⟨go, 0, none⟩ = some (.pointer (some ⟨gs, 0, none⟩)) from hb.cell 0)
 have S1 := hHd (hs.still kd)
 have LG1 := hHd (Box.kp hl kd (fun e => e))
 have D1 := hHd (hD.still kd)
 have hl63 : (bs.length : Int) <= 513 := by omega
 clear hb hs hl ht hlen hD hL h1 h2 hrd hl0 hP hoff hon kd hLn hum
 go_enter Tryz.func45, Tryz.ntmps45
 go_upto_region 1 with fail
 refine wp_region_held_drew (S := fun v => v.cell? ⟨go, 0, none⟩ = some (.pointer (some ⟨gs, 0, none⟩)) /\ Stb v gs gl b note um vl vc cm dead) (by kernel_rfl) (⟨OB1.out, S1.out⟩) (fun hHeld => ?_)
 refine tk 0 (h := ?_)
 refine tk 1 (h := ?_)
 refine tk 2 (h := ?_)
 refine tk 3 (v := ?_) (hy := ?_) (h := ?_)
 rotate_left
 ·intro v hSw
  have y := hSw.1
  go_simp
  with_reducible rfl
 refine tk 4 (h := ?_)
 refine tk 5 (h := ?_)
 refine tk 6 (v := ?_) (hy := ?_) (h := ?_)
 rotate_left
 ·intro v hSw
  have y := (Stb.cells hSw.2).2.1
  go_simp
  with_reducible rfl
 refine tk 7 (h := ?_)
 refine tk 8 (h := ?_)
 refine tk 9 (h := ?_)
 refine tk 10 (v := ?_) (hy := ?_) (h := ?_)
 rotate_left
 ·intro v hSw
  have y := hSw.1
  go_simp
  with_reducible rfl
 refine tk 11 (h := ?_)
 refine tk 12 (h := ?_)
 refine tk 13 (v := ?_) (hy := ?_) (h := ?_)
 rotate_left
 ·intro v hSw
  have y := (Stb.cells hSw.2).1
  go_simp
  with_reducible rfl
 refine rd 14 (h := fun K hK => ?_)
 go_simp
 refine (lsectors_any LG1.out).mono ?_
 rintro e w9 ⟨rfl, rfl⟩
 rw [HLN.out]
 go_wp2_with fail
 refine hK.out _ _ (⟨OB1.out, S1.out⟩) (fun hHeld1 => ?_)
 clear hK K
 try simp only [Act.put, sIa, sI0, sI1]
 refine rd 15 (h := fun K hK => ?_)
 go_simp
 refine (psector_any L 0 HL.out (by omega) _).mono ?_
 rintro e w9 ⟨rfl, rfl⟩
 go_wp2_with fail
 refine hK.out _ _ (⟨OB1.out, S1.out⟩) (fun hHeld2 => ?_)
 clear hK K
 try simp only [Act.put, sIa, sI0, sI1]
 refine rd 16 (h := fun K hK => ?_)
 go_simp
 refine (read_any D1.out ((2 + L + 0 : Nat) : Int)).mono ?_
 rw [HRD.out]
 rintro e w2 ⟨A0, rfl, hrd2, hk2⟩
 have RD2 := hHd hrd2
 have K2 := hHd (((Kp.refl (fun _ => False) W).drew).trans hk2)
 have OB2 := hHd ((K2.out.cell (p := ⟨go, 0, none⟩) (World.block_lt_of_cell? _ _ OBW.out) (fun e => e)).trans OBW.out)
 have S2 := hHd (SW.out.still K2.out)
 clear hrd2 hk2
 go_wp2_with fail
 refine hK.out _ _ (⟨OB2.out, S2.out⟩) (fun hHeld3 => ?_)
 clear hK K
 try simp only [Act.put, sIa, sI0, sI1]
 refine tk 17 (h := ?_)
 refine tk 18 (h := ?_)
 refine tk 19 (h := ?_)
 refine tk 20 (h := ?_)
 refine tk 21 (h := ?_)
 refine wpAnyH_done (by kernel_rfl) ?_ _
 clear hHeld
 have B2 := hHd (Box.kp BW.out K2.out (fun e => e))
 have T2 := hHd (TW.out.kp K2.out (fun _ _ e => e))
 have y0 := B2.out.cell 2
 obtain ⟨b2, o2, hA2, hrd2⟩ : ∃ b2 o2, A0 = some ⟨b2, o2, none⟩ /\ ∀ j u, l0[j]? = some u -> w2.cell? ⟨b2, o2 + j, none⟩ = some (.int .u8 u.toNat) := by
  rcases RD2.out with h | ⟨b2, o2, h, h'⟩
  ·have := HL0.out; rw [h] at this; cases this
  ·exact ⟨b2, o2, h, h'⟩
 subst hA2
 have R2 := hHd hrd2
 have hl512 := HL0.out
 clear hrd2 RD2
 rw [hl512]
 clear hl512
 go_wp2_with fail
 go_loopw [3, 38] (fun s3 s38 wr => ∃ (k b3 o3 c3 : Nat) (P3 : List UInt8), k <= bs.length /\ s38 = .int .i64 k /\ s3 = .slice (some ⟨b3, o3, none⟩) 512 c3 /\ P3.length = 512 /\ (∀ j u, P3[j]? = some u -> wr.cell? ⟨b3, o3 + j, none⟩ = some (.int .u8 u.toNat)) /\ (overs (bs.take k) 0).getD l0 = P3 /\ Kp (fun _ => False) w2 wr) (fun _ s38 _ => bs.length - (Go.RowKit.intOf s38).toNat)
 case atStart => exact ⟨0, b2, o2, 512, l0, Nat.zero_le _, rfl, rfl, HL0.out, R2.out, rfl, Kp.refl _ w2⟩
 case round =>
  obtain ⟨k, b3, o3, c3, P3, hk, rfl, rfl, hp3, hc3, ho3, hkp⟩ := hrel
  have KW := hHd hkp
  have HP3 := hHd hp3
  have HC3 := hHd hc3
  have HO3 := hHd ho3
  have TR := hHd (T2.out.kp hkp (fun _ _ e => e))
  clear hkp hp3 hc3 ho3
  by_cases hlt : k < bs.length
  ·obtain ⟨m, hm⟩ : ∃ m, bs[k]? = some m := ⟨_, List.getElem?_eq_getElem hlt⟩
   obtain ⟨ms, hms, hrr, hAG, hall⟩ := TR.out
   obtain ⟨g, hg⟩ : ∃ g, ms[k]? = some g := ⟨_, List.getElem?_eq_getElem (by omega)⟩
   obtain ⟨hgG, hpg⟩ := hall k g m hg hm
   obtain ⟨bv, cv', hvg, _, hcell⟩ := hrr.cell (show 0 < bs.length by omega)
   injection hvg with hA hB0 hC
   clear hB0
   subst hA
   subst hC
   have y := hcell k (.map (some g)) (by rw [List.getElem?_map, hg]; rfl)
   have PG := hHd hpg
   have HTK := hHd (show overs (bs.take (k + 1)) 0 = (m 0).or (overs (bs.take k) 0) by
    rw [List.take_add_one, hm]
    show overs (bs.take k ++ [m]) 0 = _
    rw [overs_snoc]
    rfl)
   clear hm hms hrr hAG hall hg hgG hpg hcell
   go_upto_region 8 with (first | (refine wpList_anyPg rfl (.tmp 43) (.const (.int .i64 0)) rfl rfl PG.out 0 (by decide) rfl ?_; intro p x hpl hx1 hx2; have HPL := hHd hpl; have HX1 := hHd hx1; have HX2 := hHd hx2; clear hpl hx1 hx2) | (refine wpList_store_box rfl 107 (.tmp 7) (.tmp 45) rfl wr.heap.size (bcs p) rfl rfl (Box.new wr 107 Tryz.zeroCells107) (by rw [bcs_length, HPL.out]; kernel_rfl) (by rw [bcs_length, HPL.out]; exact infoPg) (bcs_one p) ?_; intro w3 hb3 hk3; have B3 := hHd hb3; have K3 := hHd (((Kp.refl (fun _ => False) wr).alloc (.cells Tryz.zeroCells107 107)).trans_new hk3 (fun q e => .inl (by omega))); clear hb3 hk3) | fail)
   rcases x with _ | _
   ·go_wp2_with fail
    go_roundw
    case measure =>
     simp only [Go.RowKit.intOf]
     omega
    case rel =>
     refine ⟨k + 1, b3, o3, c3, P3, by omega, by go_num, rfl, HP3.out, fun j u hj => ?_, ?_, KW.out.trans K3.out⟩
     ·have hc := HC3.out j u hj
      exact (K3.out.cell (p := ⟨b3, o3 + j, none⟩) (World.block_lt_of_cell? _ _ hc) (fun e => e)).trans hc
     ·rw [HTK.out, HX2.out rfl]
      exact HO3.out
   ·have hpl := HPL.out
    go_wp2_with fail
    go_roundw
    case measure =>
     simp only [Go.RowKit.intOf]
     omega
    case rel =>
     refine ⟨k + 1, wr.heap.size, 0, 512, p, by omega, by go_num, rfl, HPL.out, fun j u hj => ?_, ?_, KW.out.trans K3.out⟩
     ·have := B3.out.cell j
      rw [Nat.zero_add]
      rw [this]
      simp [bcs_get, hj]
     ·rw [HTK.out, HX1.out rfl]
      rfl
  ·have hkb : k = bs.length := by omega
   subst hkb
   have hov := HO3.out
   rw [List.take_length] at hov
   have hp : P3 = P := by rw [<- HPP.out, hov]
   subst hp
   have KA := hHd (K2.out.trans KW.out)
   have S3 := hHd (show Stb wr gs gl b note (Bt.mcs Bt.nof n) vl vc cm dead from by rw [HUM.out]; exact S2.out.still KW.out)
   have OB3 := hHd ((KW.out.cell (p := ⟨go, 0, none⟩) (World.block_lt_of_cell? _ _ OB2.out) (fun e => e)).trans OB2.out)
   have y1 := OB3.out
   clear hov y0
   go_upto_region 11 with fail
   go_wp2_with fail
   refine (ppages_stb S3.out).mono ?_
   rintro e w5 ⟨rfl, hk5⟩
   have K5 := hHd (KA.out.trans hk5)
   have C5 := hHd (show ∀ j u, P3[j]? = some u -> w5.cell? ⟨b3, o3 + j, none⟩ = some (.int .u8 u.toNat) from fun j u hj => by
    have hc := HC3.out j u hj
    exact (hk5.cell (p := ⟨b3, o3 + j, none⟩) (World.block_lt_of_cell? _ _ hc) (fun e => e)).trans hc)
   clear hk5 y1
   go_wp2_with fail
   refine (Bt.take_ok b3 o3 c3 P3 n w5 HN1.out HN2.out HP3.out HOFF.out C5.out).mono ?_
   rintro e w6 ⟨rfl, hk6⟩
   have K6 := hHd (K5.out.trans hk6)
   clear hk6
   go_upto_region 12 with (first | (refine wpList_store_box rfl 82 (.tmp 9) (.tmp 58) rfl w6.heap.size (Bt.mcs (Bt.bitL P3) n) rfl rfl (Box.new w6 82 #[Value.int .u64 0, Value.int .u64 0, Value.int .u64 0, Value.int .u64 0, Value.int .u64 0, Value.int .u64 0, Value.int .u64 0, Value.int .u64 0, Value.int .u64 0, Value.int .u64 0, Value.int .u64 0, Value.int .u64 0, Value.int .u64 0, Value.int .u64 0, Value.int .u64 0, Value.int .u64 0, Value.int .i64 0]) (by rw [Bt.mcs_length]; kernel_rfl) (Bt.infoMcs _ _) (Bt.mcs_one _ _) ?_; intro w7 hb7 hk7; have M7a := hHd hb7; have K7 := hHd (K6.out.trans (((Kp.refl (fun _ => False) w6).alloc (.cells #[Value.int .u64 0, Value.int .u64 0, Value.int .u64 0, Value.int .u64 0, Value.int .u64 0, Value.int .u64 0, Value.int .u64 0, Value.int .u64 0, Value.int .u64 0, Value.int .u64 0, Value.int .u64 0, Value.int .u64 0, Value.int .u64 0, Value.int .u64 0, Value.int .u64 0, Value.int .u64 0, Value.int .i64 0] 82)).trans_new hk7 (fun q e => .inl (by omega)))); clear hb7 hk7) | fail)
   obtain ⟨gm, hgm⟩ : ∃ gm, w6.heap.size = gm := ⟨_, rfl⟩
   have M7 := hHd (show Box w7 gm 82 (Bt.mcs (Bt.bitL P3) n).toArray from hgm ▸ M7a.out)
   have HGM := hHd (show gm ≠ gs from by have := SW.out.2.2.lt; have := K6.out.size; omega)
   rw [hgm]
   clear hgm M7a
   refine wp_region_list ?_
   simp only []
   refine wpList_step (fun K hK => ?_)
   go_simp
   refine hK _ _ ?_
   clear hK K
   refine wpList_step (fun K hK => ?_)
   go_simp
   refine hK _ _ ?_
   clear hK K
   refine wpList_step (fun K hK => ?_)
   go_simp
   refine hK _ _ ?_
   clear hK K
   refine wpList_step (fun K hK => ?_)
   rw [if_pos (by rfl)]
   refine wp_load_mid 82 (.tmp 9) rfl gm 0 rfl (Bt.mcs (Bt.bitL P3) n) _ (Box.range' M7.out) Tryz.underlying82 rfl (Bt.infoMcs _ _) ?_
   refine hK _ _ ?_
   clear hK K
   refine wpList_step (fun K hK => ?_)
   go_simp
   refine (Bt.has_any (Bt.bitL P3) n 0 _ HN2.out).mono ?_
   rw [HHAS.out]
   rintro e w8 ⟨rfl, hk8⟩
   have K8 := hHd hk8
   clear hk8
   go_simp
   refine hK _ _ ?_
   clear hK K
   refine wpList_step (fun K hK => ?_)
   go_simp
   refine hK _ _ ?_
   clear hK K
   refine wpList_step (fun K hK => ?_)
   go_simp
   refine hK _ _ ?_
   clear hK K
   refine wpList_nil ?_
   go_upto_region 14 with fail
   have K9 := hHd ((K7.out.trans K8.out).drew)
   have S9 := hHd (SW.out.still K9.out)
   have OB9 := hHd ((K9.out.cell (p := ⟨go, 0, none⟩) (World.block_lt_of_cell? _ _ OBW.out) (fun e => e)).trans OBW.out)
   have M9 := hHd (Box.kp M7.out K8.out.drew (fun e => e))
   refine wp_region_held_drew (S := fun v => v.cell? ⟨go, 0, none⟩ = some (.pointer (some ⟨gs, 0, none⟩)) /\ v.rangeAt gm 0 (Bt.mcs (Bt.bitL P3) n)) (by kernel_rfl) (⟨OB9.out, Box.range' M9.out⟩) (fun hHeld => ?_)
   refine tk 0 (h := ?_)
   refine tk 1 (h := ?_)
   refine tk 2 (h := ?_)
   refine tk 3 (v := ?_) (hy := ?_) (h := ?_)
   rotate_left
   ·intro v hSw
    have y := hSw.1
    go_simp
    with_reducible rfl
   refine tk 4 (hy := fun v hSw => exec_load_mid 82 (.tmp 9) rfl gm 0 rfl (Bt.mcs (Bt.bitL P3) n) _ hSw.2 Tryz.underlying82 rfl (Bt.infoMcs _ _)) (h := ?_)
   refine tk 5 (h := ?_)
   refine tk 6 (h := ?_)
   refine rd 7 (h := fun K hK => ?_)
   rw [if_pos (by rfl)]
   have hbx := S9.out.2.2
   rw [stc_um] at hbx
   refine wp_store_part 82 (.tmp 73) (.tmp 71) rfl gs (sth gl b note) um (Bt.mcs (Bt.bitL P3) n) ([vl, vc] ++ cm ++ [Value.bool dead]) rfl rfl hbx (by rw [S9.out.1, Bt.mcs_length]) (Bt.infoMcs _ _) (Bt.mcs_one _ _) ?_
   intro w10 hb10 hk10
   have S10 := hHd (S9.out.newUm (Bt.mcs_length _ _) hb10)
   have OB10 := hHd ((hk10.cell (p := ⟨go, 0, none⟩) (World.block_lt_of_cell? _ _ OB9.out) (fun e => HGG.out (by have : go = gs := e; exact this))).trans OB9.out)
   have M10 := hHd (Box.kp M9.out hk10 (fun e => HGM.out (by have : gm = gs := e; exact this)))
   have K10 := hHd (K9.out.of_false.trans hk10)
   clear hbx hb10 hk10
   refine hK.out _ _ (⟨OB10.out, Box.range' M10.out⟩) (fun hHeld4 => ?_)
   clear hK K
   try simp only [Act.put]
   refine wpAnyH_done (by kernel_rfl) ?_ _
   clear hHeld
   go_wp2_with fail
   go_ret
   exact ⟨rfl, S10.out, K10.out⟩
structure Og (d : Dm) (l : Lm) (n L : Nat) (note l0 P : List UInt8) (bs : List Bm) : Prop where
 hL : l.h.n = L
 note_ : l.h.note = hnote n note
 p1 : 64 <= n
 p2 : n <= 1024
 nl : note.length <= 40
 L5 : L <= 512
 len : 2 + L + n <= d.on.length
 ok : ∀ m ∈ bs, Bm.Ok m n
 few : bs.length <= 513
 rd : d.readS ((2 + L + 0 : Nat) : Int) = (l0, 0)
 l512 : l0.length = 512
 hP : (overs bs 0).getD l0 = P
 off : ∀ i, n <= i -> Bt.bitL P i = false
 on_ : Bt.bitL P 0 = true
 lok : l.ok
 wt : d.wait.length + 600000 < 1073741824
structure Ob (F0 : Nat -> Prop) (W V : World) (go gs gl gst b : Nat) (l : Lm) (vt vb : Value) (note : List UInt8) (um : List Value) (vl vc : Value) (cm : List Value) : Prop where
 row : Box V gst 104 #[Stp.v ⟨43, #[.pointer (some ⟨go, 0, none⟩)], #[]⟩, Stp.v ⟨44, #[.pointer (some ⟨go, 0, none⟩)], #[]⟩, Stp.v ⟨45, #[.pointer (some ⟨go, 0, none⟩)], #[]⟩, Stp.v ⟨46, #[.pointer (some ⟨go, 0, none⟩)], #[]⟩, Stp.v ⟨47, #[.pointer (some ⟨b, 0, none⟩)], #[]⟩, Stp.v ⟨48, #[.pointer (some ⟨gl, 0, none⟩)], #[]⟩]
 bo : Box V go 89 #[.pointer (some ⟨gs, 0, none⟩), vt, vb]
 st : Stb V gs gl b note um vl vc cm false
 lg : Box V gl 130 (lcs b l)
 tb : Tbl V
 kp : Kp (fun k => (F0 k \/ W.heap.size <= k) \/ k = go \/ k = gs \/ k = gl) W V
section
variable {F0 : Nat -> Prop} {W V V' : World} {go gs gl gst b n L : Nat} {l l' : Lm} {vt vb vb' vl vc : Value} {note note' : List UInt8} {um um' cm : List Value} {d : Dm}
theorem Ob.turn {S : Nat -> Prop} (h : Ob F0 W V go gs gl gst b l vt vb note um vl vc cm) (hk : Kp S V V') (hS : ∀ k, S k -> (F0 k \/ W.heap.size <= k) \/ k = go \/ k = gs \/ k = gl) (hr : ¬ S gst) (ht : ¬ S 1)
  (hb : Box V' go 89 #[.pointer (some ⟨gs, 0, none⟩), vt, vb']) (hs : Stb V' gs gl b note' um' vl vc cm false) (hl : Box V' gl 130 (lcs b l')) : Ob F0 W V' go gs gl gst b l' vt vb' note' um' vl vc cm :=
 ⟨h.row.kp hk hr, hb, hs, hl, h.tb.kp hk ht, h.kp.trans (hk.mono fun k _ e => hS k e)⟩
theorem RdR.keep1 {w w' : World} {t t' : TypeId} {size n g : Nat} {v : Value} {xs : List Value} {cs : Array Value} (h : RdR w t size v n xs) (hk : Kp (fun k => k = g) w w') (hb : Box w g t' cs) (hne : t ≠ t') : RdR w' t size v n xs :=
 h.kp hk (fun q cs' fr hq e => by
  have hq' : q = g := e
  subst hq'
  unfold Box at hb
  rw [hb] at hq
  injection hq with hq
  injection hq with _ hq
  exact hne hq.symm)
theorem BtR.mono {G G' : Nat -> Prop} {w : World} {n : Nat} {bs : List Bm} {A : Option Addr} {c : Nat} (h : BtR G w n bs A c) (hG : ∀ k, G k -> G' k) : BtR G' w n bs A c := by
 obtain ⟨gs, h1, h2, h3, h4⟩ := h
 exact ⟨gs, h1, h2, fun b e => hG b (h3 b e), fun i g m hg hm => ⟨hG g (h4 i g m hg hm).1, (h4 i g m hg hm).2⟩⟩
theorem wait_putBs (o n : Nat) : ∀ (bs : List Bm) (d : Dm), n <= 1024 -> (Dm.putBs o n bs d).1.wait.length <= d.wait.length + 1024 * bs.length
 |[], d, _ => Nat.le_refl _
 |m :: r, d, hn => by
  rw [putBs_step]
  have h1 := wait_putPg o m (m.keys n) d
  have h3 := keys_le m n
  split
  ·have h2 := wait_putBs o n r (Dm.putPg o m (m.keys n) d).1 hn
   simp only [List.length_cons]
   omega
  ·simp only [List.length_cons]
   omega
theorem openP_a {bs : List Bm} {used : Nat -> Bool} (h : (Dm.thenFlush (Dm.putBs (2 + l.h.n) n bs d)).2 ≠ 0) : d.openP l n note bs used = (none, (Dm.thenFlush (Dm.putBs (2 + l.h.n) n bs d)).1, (Dm.thenFlush (Dm.putBs (2 + l.h.n) n bs d)).2) := by
 unfold Dm.openP
 generalize Dm.thenFlush (Dm.putBs (2 + l.h.n) n bs d) = r at h ⊢
 obtain ⟨d2, e⟩ := r
 dsimp only at h ⊢
 rw [if_neg h]
theorem openP_b {bs : List Bm} {used : Nat -> Bool} (h : (Dm.thenFlush (Dm.putBs (2 + l.h.n) n bs d)).2 = 0) (h3 : (l.trimS (Dm.thenFlush (Dm.putBs (2 + l.h.n) n bs d)).1).2.2 ≠ 0) :
  d.openP l n note bs used = (none, (l.trimS (Dm.thenFlush (Dm.putBs (2 + l.h.n) n bs d)).1).2.1, (l.trimS (Dm.thenFlush (Dm.putBs (2 + l.h.n) n bs d)).1).2.2) := by
 unfold Dm.openP
 generalize Dm.thenFlush (Dm.putBs (2 + l.h.n) n bs d) = r at h h3 ⊢
 obtain ⟨d2, e⟩ := r
 dsimp only at h h3 ⊢
 rw [if_pos h]
 generalize l.trimS d2 = q at h3 ⊢
 obtain ⟨l1, d3, e3⟩ := q
 dsimp only at h3 ⊢
 rw [if_neg h3]
theorem openP_c {bs : List Bm} {used : Nat -> Bool} (h : (Dm.thenFlush (Dm.putBs (2 + l.h.n) n bs d)).2 = 0) (h3 : (l.trimS (Dm.thenFlush (Dm.putBs (2 + l.h.n) n bs d)).1).2.2 = 0) :
  d.openP l n note bs used = (some ⟨(l.trimS (Dm.thenFlush (Dm.putBs (2 + l.h.n) n bs d)).1).1, n, note, used, bnone, bnone, used, false⟩, (l.trimS (Dm.thenFlush (Dm.putBs (2 + l.h.n) n bs d)).1).2.1, 0) := by
 unfold Dm.openP
 generalize Dm.thenFlush (Dm.putBs (2 + l.h.n) n bs d) = r at h h3 ⊢
 obtain ⟨d2, e⟩ := r
 dsimp only at h h3 ⊢
 rw [if_pos h]
 generalize l.trimS d2 = q at h3 ⊢
 obtain ⟨l1, d3, e3⟩ := q
 dsimp only at h3 ⊢
 rw [if_pos h3]
end
def OgI (F0 : Nat -> Prop) (W : World) (go gs gl gst b n L : Nat) (l : Lm) (d : Dm) (vt vl vc : Value) (note P : List UInt8) (um0 cm : List Value) (bs : List Bm) : Nat -> World -> Prop
 |0, V => Ob F0 W V go gs gl gst b l vt (.slice none 0 0) [] um0 vl vc cm /\ Dsk F0 V b d /\ RdR V 9 1 vt bs.length (strs (bs.map fun m => m.text n))
 |1, V => Ob F0 W V go gs gl gst b l vt (.slice none 0 0) note (Bt.mcs Bt.nof n) vl vc cm /\ Dsk F0 V b d /\ RdR V 9 1 vt bs.length (strs (bs.map fun m => m.text n))
 |2, V => ∃ A c, Ob F0 W V go gs gl gst b l vt (.slice A bs.length c) note (Bt.mcs Bt.nof n) vl vc cm /\ Dsk F0 V b d /\ BtR (fun k => W.heap.size <= k /\ k < V.heap.size) V n bs A c
 |3, V => ∃ A c, Ob F0 W V go gs gl gst b l vt (.slice A bs.length c) note (Bt.mcs (Bt.bitL P) n) vl vc cm /\ Dsk F0 V b d /\ BtR (fun k => W.heap.size <= k /\ k < V.heap.size) V n bs A c
 |4, V => ∃ vb, Ob F0 W V go gs gl gst b l vt vb note (Bt.mcs (Bt.bitL P) n) vl vc cm /\ Dsk (fun k => F0 k \/ W.heap.size <= k) V b (Dm.putBs (2 + L) n bs d).1 /\ (Dm.putBs (2 + L) n bs d).2 = 0
 |5, V => ∃ vb, Ob F0 W V go gs gl gst b l vt vb note (Bt.mcs (Bt.bitL P) n) vl vc cm /\ Dsk (fun k => F0 k \/ W.heap.size <= k) V b (Dm.thenFlush (Dm.putBs (2 + L) n bs d)).1 /\ (Dm.thenFlush (Dm.putBs (2 + L) n bs d)).2 = 0
 |_ + 6, V => ∃ vb, Ob F0 W V go gs gl gst b (l.trimS (Dm.thenFlush (Dm.putBs (2 + L) n bs d)).1).1 vt vb note (Bt.mcs (Bt.bitL P) n) vl vc cm /\ Dsk (fun k => F0 k \/ W.heap.size <= k) V b (l.trimS (Dm.thenFlush (Dm.putBs (2 + L) n bs d)).1).2.1 /\ (Dm.thenFlush (Dm.putBs (2 + L) n bs d)).2 = 0 /\ (l.trimS (Dm.thenFlush (Dm.putBs (2 + L) n bs d)).1).2.2 = 0
section
variable {F0 : Nat -> Prop} {W : World} {go gs gl gst b n L : Nat} {l : Lm} {vt vl vc : Value} {note l0 P : List UInt8} {um0 cm : List Value} {d : Dm} {bs : List Bm}
theorem open_order (hg : Og d l n L note l0 P bs) (hX : Ob F0 W W go gs gl gst b l vt (.slice none 0 0) [] um0 vl vc cm) (hD : Dsk F0 W b d) (hRT : RdR W 9 1 vt bs.length (strs (bs.map fun m => m.text n)))
  (f1 : ¬ F0 go) (f2 : ¬ F0 gs) (f3 : ¬ F0 gl) (f4 : ¬ F0 gst) (f5 : ¬ F0 1) (h5 : 1 < W.heap.size) (hne : 1 ≠ go /\ 1 ≠ gs /\ 1 ≠ gl) (hFlt : ∀ k, F0 k -> k < W.heap.size) (c : Nat) (used : Nat -> Bool) :
  Calls Tryz.prog 42 #[.slice (some ⟨gst, 0, none⟩) 6 c] W fun e V => Dsk (fun k => F0 k \/ W.heap.size <= k) V b (d.openP l n note bs used).2.1 /\ e = .returned (.int .i64 (d.openP l n note bs used).2.2) /\
   Kp (fun k => (F0 k \/ W.heap.size <= k) \/ k = go \/ k = gs \/ k = gl) W V /\
   ((d.openP l n note bs used).2.2 = 0 -> ∃ l1, (d.openP l n note bs used).1 = some ⟨l1, n, note, used, bnone, bnone, used, false⟩ /\ Stb V gs gl b note (Bt.mcs (Bt.bitL P) n) vl vc cm false /\ Box V gl 130 (lcs b l1) /\ V.cell? ⟨go, 0, none⟩ = some (.pointer (some ⟨gs, 0, none⟩))) := by
 have nlt : gst < W.heap.size := hX.row.lt
 have olt : go < W.heap.size := hX.bo.lt
 have slt : gs < W.heap.size := hX.st.2.2.lt
 have llt : gl < W.heap.size := hX.lg.lt
 have og : go ≠ gs := fun e => hX.bo.type_ne hX.st.2.2 (by decide) e
 have lg : gl ≠ gs := fun e => hX.lg.type_ne hX.st.2.2 (by decide) e
 have ol : go ≠ gl := fun e => hX.bo.type_ne hX.lg (by decide) e
 have so : gst ≠ go := fun e => hX.row.type_ne hX.bo (by decide) e
 have ss : gst ≠ gs := fun e => hX.row.type_ne hX.st.2.2 (by decide) e
 have sl : gst ≠ gl := fun e => hX.row.type_ne hX.lg (by decide) e
 have hL := hg.hL
 have hord := order_any [⟨43, #[.pointer (some ⟨go, 0, none⟩)], #[]⟩, ⟨44, #[.pointer (some ⟨go, 0, none⟩)], #[]⟩, ⟨45, #[.pointer (some ⟨go, 0, none⟩)], #[]⟩, ⟨46, #[.pointer (some ⟨go, 0, none⟩)], #[]⟩, ⟨47, #[.pointer (some ⟨b, 0, none⟩)], #[]⟩, ⟨48, #[.pointer (some ⟨gl, 0, none⟩)], #[]⟩] gst c W (OgI F0 W go gs gl gst b n L l d vt vl vc note P um0 cm bs)
  (fun q V => Dsk (fun k => F0 k \/ W.heap.size <= k) V b (d.openP l n note bs used).2.1 /\ (d.openP l n note bs used).2.2 = q /\ Kp (fun k => (F0 k \/ W.heap.size <= k) \/ k = go \/ k = gs \/ k = gl) W V)
  (fun i V hi j s hj => by
   have hb : Box V gst 104 #[Stp.v ⟨43, #[.pointer (some ⟨go, 0, none⟩)], #[]⟩, Stp.v ⟨44, #[.pointer (some ⟨go, 0, none⟩)], #[]⟩, Stp.v ⟨45, #[.pointer (some ⟨go, 0, none⟩)], #[]⟩, Stp.v ⟨46, #[.pointer (some ⟨go, 0, none⟩)], #[]⟩, Stp.v ⟨47, #[.pointer (some ⟨b, 0, none⟩)], #[]⟩, Stp.v ⟨48, #[.pointer (some ⟨gl, 0, none⟩)], #[]⟩] := by
    match i, hi with
    |0, hi => exact hi.1.row
    |1, hi => exact hi.1.row
    |2, ⟨_, _, hi, _⟩ => exact hi.row
    |3, ⟨_, _, hi, _⟩ => exact hi.row
    |4, ⟨_, hi, _⟩ => exact hi.row
    |5, ⟨_, hi, _⟩ => exact hi.row
    |i + 6, ⟨_, hi, _⟩ => exact hi.row
   match j, hj with
   |0, hj => injection hj with hj; subst hj; exact hb.cell 0
   |1, hj => injection hj with hj; subst hj; exact hb.cell 1
   |2, hj => injection hj with hj; subst hj; exact hb.cell 2
   |3, hj => injection hj with hj; subst hj; exact hb.cell 3
   |4, hj => injection hj with hj; subst hj; exact hb.cell 4
   |5, hj => injection hj with hj; subst hj; exact hb.cell 5
   |j + 6, hj => simp at hj)
  ⟨hX, hD, hRT⟩
  (fun s hs => by
   simp only [List.mem_cons, List.not_mem_nil, or_false] at hs
   rcases hs with rfl | rfl | rfl | rfl | rfl | rfl
   ·exact enters_of Tryz.func43 (by kernel_rfl) rfl
   ·exact enters_of Tryz.func44 (by kernel_rfl) rfl
   ·exact enters_of Tryz.func45 (by kernel_rfl) rfl
   ·exact enters_of Tryz.func46 (by kernel_rfl) rfl
   ·exact enters_of Tryz.func47 (by kernel_rfl) rfl
   ·exact enters_of Tryz.func48 (by kernel_rfl) rfl)
  (show ((6 : Nat) : Int) <= 100 by decide)
  (fun i s V hj hi => by
   match i, hj with
   |0, hj =>
    injection hj with hj
    subst hj
    obtain ⟨x, dk, rt⟩ := hi
    refine (readNote_any (x.bo.cell 0) x.st og x.lg lg dk (fun k hk e => f2 (e ▸ hk)) hg.note_ hg.p1 hg.p2 hg.nl (by rw [hL]; exact hg.L5) (by rw [hL]; exact hg.len)).mono ?_
    rintro e V' ⟨rfl, hs, hk⟩
    exact ⟨_, rfl, .inl ⟨rfl, x.turn hk (fun k e => .inr (.inr (.inl e))) ss hne.2.1 (x.bo.kp hk og) hs (x.lg.kp hk lg), dk.kp hk (fun k h e => f2 (e ▸ h)), rt.keep1 hk x.st.2.2 (by decide)⟩⟩
   |1, hj =>
    injection hj with hj
    subst hj
    obtain ⟨x, dk, rt⟩ := hi
    refine (readTexts_any x.bo x.st rt hg.p2 hg.ok hg.few).mono ?_
    rintro e V' ⟨rfl, vb, hbo, hbt, hk⟩
    obtain ⟨A, c1, rfl, hbr⟩ := hbt.read
    exact ⟨_, rfl, .inl ⟨rfl, A, c1, x.turn hk (fun k e => .inr (.inl e)) so hne.1 hbo (x.st.kp hk (fun e => og e.symm)) (x.lg.kp hk (fun e => ol e.symm)), dk.kp hk (fun k h e => f1 (e ▸ h)), hbr.mono fun k e => ⟨Nat.le_trans x.kp.size e.1, e.2⟩⟩⟩
   |2, hj =>
    injection hj with hj
    subst hj
    obtain ⟨A, c1, x, dk, bt⟩ := hi
    refine (readMap_any x.bo x.st x.lg bt hg.few dk (by rw [hL]; exact hg.L5) (by have := hg.p1; omega) hg.p2 (by rw [hL]; exact hg.rd) hg.l512 hg.hP hg.off hg.on_).mono ?_
    rintro e V' ⟨rfl, hs, hk⟩
    exact ⟨_, rfl, .inl ⟨rfl, A, c1, x.turn hk (fun k e => .inr (.inr (.inl e))) ss hne.2.1 (x.bo.kp hk og) hs (x.lg.kp hk lg), dk.kp hk (fun k h e => f2 (e ▸ h)), (bt.kp hk (fun k e e2 => by have : k = gs := e2; omega)).mono fun k e => ⟨e.1, Nat.lt_of_lt_of_le e.2 hk.size⟩⟩⟩
   |3, hj =>
    injection hj with hj
    subst hj
    obtain ⟨A, c1, x, dk, bt⟩ := hi
    have hsz := x.kp.size
    refine (writeTexts_any (F := fun k => F0 k \/ V.heap.size <= k) (fun k hk => .inr hk) (fun e => e.elim f1 (fun h => by omega)) (fun e => e.elim f2 (fun h => by omega)) (fun e => e.elim f3 (fun h => by omega)) (fun k e e2 => e2.elim (fun h => by have := hFlt k h; omega) (fun h => by omega)) x.bo x.st x.lg bt hg.few (dk.mono fun k h => .inl h) (by rw [hL]; exact hg.L5) hg.wt).mono ?_
    rw [hL]
    rintro e V' ⟨rfl, hd, hk⟩
    refine ⟨_, rfl, ?_⟩
    have hx := x.turn (vb' := .slice A bs.length c1) (note' := note) (um' := Bt.mcs (Bt.bitL P) n) (l' := l) hk (fun k e => .inl (e.imp id (fun h => Nat.le_trans hsz h))) (fun e => e.elim f4 (fun h => by omega)) (fun e => e.elim f5 (fun h => by omega)) (x.bo.kp hk (fun e => e.elim f1 (fun h => by omega))) (x.st.kp hk (fun e => e.elim f2 (fun h => by omega))) (x.lg.kp hk (fun e => e.elim f3 (fun h => by omega)))
    have hd' : Dsk (fun k => F0 k \/ W.heap.size <= k) V' b (Dm.putBs (2 + L) n bs d).1 := hd.mono fun k e => e.imp id (fun h => Nat.le_trans hsz h)
    by_cases hz : (Dm.putBs (2 + L) n bs d).2 = 0
    ·exact .inl ⟨hz, _, hx, hd', hz⟩
    ·have ef := thenFlush_no hz
     have eo := openP_a (l := l) (note := note) (used := used) (bs := bs) (d := d) (n := n) (by rw [hL, ef]; exact hz)
     rw [hL, ef] at eo
     refine .inr ⟨hz, ?_, ?_, hx.kp⟩
     ·rw [eo]; exact hd'
     ·rw [eo]
   |4, hj =>
    injection hj with hj
    subst hj
    obtain ⟨vb, x, dk, e0⟩ := hi
    have hsz := x.kp.size
    refine (flush_any dk).mono ?_
    rintro e V' ⟨rfl, hd, hk⟩
    refine ⟨_, rfl, ?_⟩
    have et := thenFlush_ok e0
    have hx := x.turn (vb' := vb) (note' := note) (um' := Bt.mcs (Bt.bitL P) n) (l' := l) hk (fun k e => .inl e) (fun e => e.elim f4 (fun h => by omega)) (fun e => e.elim f5 (fun h => by omega)) (x.bo.kp hk (fun e => e.elim f1 (fun h => by omega))) (x.st.kp hk (fun e => e.elim f2 (fun h => by omega))) (x.lg.kp hk (fun e => e.elim f3 (fun h => by omega)))
    rw [<- et] at hd
    rw [<- et]
    by_cases hz : (Dm.thenFlush (Dm.putBs (2 + L) n bs d)).2 = 0
    ·exact .inl ⟨hz, vb, hx, hd, hz⟩
    ·have eo := openP_a (l := l) (note := note) (used := used) (bs := bs) (d := d) (n := n) (by rw [hL]; exact hz)
     rw [hL] at eo
     refine .inr ⟨hz, ?_, ?_, hx.kp⟩
     ·rw [eo]; exact hd
     ·rw [eo]
   |5, hj =>
    injection hj with hj
    subst hj
    obtain ⟨vb, x, dk, e0⟩ := hi
    have hsz := x.kp.size
    have hw1 := wait_putBs (2 + L) n bs d hg.p2
    have hw2 := thenFlush_wait (Dm.putBs (2 + L) n bs d)
    refine (trim_any (F := fun k => F0 k \/ W.heap.size <= k) (fun k hk => .inr (Nat.le_trans hsz hk)) dk x.tb x.lg hg.lok (by have := hg.wt; have := hg.few; omega)).mono ?_
    rintro e V' ⟨rfl, hd, hb, hk⟩
    refine ⟨_, rfl, ?_⟩
    have hx := x.turn (vb' := vb) (note' := note) (um' := Bt.mcs (Bt.bitL P) n) hk (fun k e => e.elim (fun h => .inl h) (fun h => .inr (.inr (.inr h)))) (fun e => e.elim (fun e => e.elim f4 (fun h => by omega)) sl) (fun e => e.elim (fun e => e.elim f5 (fun h => by omega)) hne.2.2) (x.bo.kp hk (fun e => e.elim (fun e => e.elim f1 (fun h => by omega)) ol)) (x.st.kp hk (fun e => e.elim (fun e => e.elim f2 (fun h => by omega)) (fun h => lg h.symm))) hb
    by_cases hz : (l.trimS (Dm.thenFlush (Dm.putBs (2 + L) n bs d)).1).2.2 = 0
    ·exact .inl ⟨hz, vb, hx, hd, e0, hz⟩
    ·have eo := openP_b (l := l) (note := note) (used := used) (bs := bs) (d := d) (n := n) (by rw [hL]; exact e0) (by rw [hL]; exact hz)
     rw [hL] at eo
     refine .inr ⟨hz, ?_, ?_, hx.kp⟩
     ·rw [eo]; exact hd
     ·rw [eo]
   |i + 6, hj => simp at hj)
 refine hord.mono ?_
 rintro e V (⟨rfl, vb, hx, hd, e0, e3⟩ | ⟨q, hq, rfl, hd, he, hk⟩)
 ·have eo := openP_c (l := l) (note := note) (used := used) (bs := bs) (d := d) (n := n) (by rw [hL]; exact e0) (by rw [hL]; exact e3)
  rw [hL] at eo
  rw [eo]
  exact ⟨hd, rfl, hx.kp, fun _ => ⟨_, rfl, hx.st, hx.lg, hx.bo.cell 0⟩⟩
 ·exact ⟨hd, by rw [he], hk, fun h => absurd (he.symm.trans h) hq⟩
end
end Go.Proofs.YtepaeliamhjgiaaGreatDoor
