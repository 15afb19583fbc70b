/- The law of pages, part 28 of 55: PgMap PgOrd PgSto PgLay PgRise. -/
import Derived.Test.YtepaeliamhjgiaaGreatDoorMu1
import Derived.Test.YtepaeliamhjgiaaGreatDoorMu23
import Derived.Test.YtepaeliamhjgiaaGreatDoorMu6
import Derived.Maps.RangeWalk
import Derived.Lib.SlKeysI
import Derived.Test.YtepaeliamhjgiaaGreatDoorMu21
import Derived.Deep.DeepMust
import Derived.Deep.DeepCutAuto
import Derived.Test.YtepaeliamhjgiaaGreatDoorMu5
import Derived.LoopN
import Derived.Shelf.Abstract
import Derived.Test.YtepaeliamhjgiaaGreatDoorMu17
import Derived.Test.YtepaeliamhjgiaaGreatDoorMu27
import Derived.Test.YtepaeliamhjgiaaGreatDoorMu26
import Derived.Test.YtepaeliamhjgiaaGreatDoorMu25
import Derived.Shelf.SlGeneric
import Derived.Shelf.SlIterI.Nil
import Derived.Shelf.SortM.Plain
import Derived.Shelf.SortM.SortNone
import Derived.Ground.GgzProg
import Derived.Ground.SlgmProg
import Derived.Test.YtepaeliamhjgiaaGreatDoorProg
set_option maxHeartbeats 16000000
set_option maxRecDepth 100000
namespace Go.Proofs.YtepaeliamhjgiaaGreatDoor
open Go.RowKit Go.Maps
def isB (v : Value) : Bool := match v with
 |.int .u8 x => decide (0 <= x) && decide (x < 256)
 |_ => false
def toB (v : Value) : UInt8 := match v with
 |.int .u8 x => UInt8.ofNat x.toNat
 |_ => 0
def rdPg (v : Value) : Option (DataW (List UInt8) × List MemPlace) := match v with
 |.agg cs => if cs.size = 512 /\ cs.toList.all isB = true then some (.held (cs.toList.map toB), []) else none
 |_ => none
theorem toB_bcs (l : List UInt8) : (bcs l).map toB = l := by
 induction l with
 |nil => rfl
 |cons x r ih =>
  have h : toB (.int .u8 x.toNat) = x := by
   show UInt8.ofNat ((x.toNat : Int)).toNat = x
   simp
  simp only [bcs, List.map_cons] at ih ⊢
  rw [h, ih]
theorem isB_bcs (l : List UInt8) : (bcs l).all isB = true := by
 rw [List.all_eq_true]
 intro v hv
 obtain ⟨x, _, rfl⟩ := List.mem_map.1 hv
 have := x.toNat_lt
 simp [isB]
 omega
theorem bcs_toB (cs : List Value) (h : cs.all isB = true) : bcs (cs.map toB) = cs := by
 induction cs with
 |nil => rfl
 |cons v r ih =>
  rw [List.all_cons, Bool.and_eq_true] at h
  have hv : Value.int .u8 (toB v).toNat = v := by
   have h1 := h.1
   unfold isB at h1
   split at h1
   ·next x =>
    simp only [Bool.and_eq_true, decide_eq_true_eq] at h1
    have : (toB (.int .u8 x)).toNat = x.toNat := by
     show (UInt8.ofNat x.toNat).toNat = x.toNat
     simp
     omega
    rw [this]
    congr 1
    omega
   ·cases h1
  have := ih h.2
  simp only [bcs, List.map_cons] at this ⊢
  rw [hv, this]
theorem rdPg_mk (l : List UInt8) (hl : l.length = 512) : rdPg (.agg (bcs l).toArray) = some (.held l, []) := by
 unfold rdPg
 dsimp only
 rw [if_pos ⟨by simp [bcs_length, hl], isB_bcs l⟩, toB_bcs]
theorem rdPg_inv {v : Value} {z : DataW (List UInt8) × List MemPlace} (h : rdPg v = some z) : ∃ l, l.length = 512 /\ v = .agg (bcs l).toArray /\ z = (.held l, []) := by
 unfold rdPg at h
 split at h
 ·next cs =>
  split at h
  ·next c =>
   injection h with h
   refine ⟨cs.toList.map toB, by simpa using c.1, ?_, h.symm⟩
   rw [bcs_toB _ c.2]
  ·cases h
 ·cases h
theorem zeroPg (w : World) : (zeroValue 107).run Tryz.prog w = .ok (.agg (bcs zsec).toArray) w := by rw [bcs_zsec]; kernel_rfl
theorem infoPg : (Tryz.prog.info? 107).map (·.size) = some 512 := by kernel_rfl
def SaysB (D : DataW (List UInt8)) (m : Bm) : Prop := (∀ x : Int, has D (.int .i64 x) = (decide (0 <= x) && (m x.toNat).isSome)) /\ ∀ k p, m k = some p -> ∀ z, D.atKey (.int .i64 (k : Nat)) z = .held p
def Pgm (w : World) (g n : Nat) (m : Bm) : Prop := m.Ok n /\ n <= 1024 /\ ∃ c D, w.ownsMap Tryz.prog 3 rdPg g c D /\ SaysB D m
section
variable {w : World} {g n : Nat} {m : Bm}
theorem Pgm.lt (h : Pgm w g n m) : g < w.heap.size := by
 obtain ⟨_, _, c, D, ho, _⟩ := h
 exact ho.lt
theorem Pgm.kp {S : Nat -> Prop} {w' : World} (h : Pgm w g n m) (hk : Kp S w w') (hn : ¬ S g) : Pgm w' g n m := by
 obtain ⟨h1, h2, c, D, ho, r⟩ := h
 have hlt := ho.lt
 obtain ⟨es, clock, hb, r2⟩ := ho
 exact ⟨h1, h2, c, D, ⟨es, clock, (hk.block g hlt hn).trans hb, r2⟩, r⟩
theorem Pgm.still {w' : World} (h : Pgm w g n m) (hk : Kp (fun _ => False) w w') : Pgm w' g n m := h.kp hk fun e => e
theorem Pgm.made (w : World) (hn : n <= 1024) : Pgm (w.alloc (.map #[] 0)) w.heap.size n bnone :=
 ⟨bnone_ok n, hn, 0, .map [], World.ownsMap_made w _ _ _, (fun x => by show false = _; simp [bnone]), fun k p h => by cases h⟩
theorem ownsMap_fit {H : Type} {P : Program} {k : TypeId} {R : Value -> Option (DataW H × List MemPlace)} {b c : Nat} {D : DataW H} (h : w.ownsMap P k R b c D) : w.ownsMap P k R b (Maps.size D) D := by
 have hs := h
 obtain ⟨es, clock, h1, h2, _, h4⟩ := h
 refine ⟨es, clock, h1, h2, ?_, h4⟩
 subst h4
 have := World.ownsMap.size_le (n := es.size) (⟨es, clock, h1, h2, Nat.le_refl _, rfl⟩ : w.ownsMap P k R b es.size _)
 simp [Maps.size, length_sorted]
theorem keys_perm {c : Nat} {D : DataW (List UInt8)} (hm : m.Ok n) (_hn : n <= 1024) (ho : w.ownsMap Tryz.prog 3 rdPg g c D) (hD : SaysB D m) : ((m.keys n).map fun i : Nat => (i : Int)).Perm (intKeys D) := by
 obtain ⟨es, hE, hpw, _⟩ := ho.entries keyedI
 obtain ⟨es', hE', hko⟩ := ho.keysOf
 obtain rfl : es = es' := by rw [hE] at hE'; simpa using hE'
 subst hE
 refine perm_intKeys hpw (fun p hp => by obtain ⟨v, hv⟩ := hko p hp; obtain ⟨x, _, hx, _⟩ := Maps.keyOf_i64 Tryz.underlying3 hv; exact ⟨x, hx⟩) ?_ fun x => ?_
 ·refine List.pairwise_map.2 ?_
  have : (m.keys n).Nodup := List.Nodup.sublist List.filter_sublist List.nodup_range
  exact this.imp fun {a b} h e => h (by have e : ((a : Nat) : Int) = (b : Nat) := e; omega)
 ·rw [hD.1 x, List.mem_map]
  constructor
  ·rintro ⟨i, hi, rfl⟩
   have := ((mem_keys i).1 hi).2
   simp [this]
  ·intro hx
   simp only [Bool.and_eq_true, decide_eq_true_eq] at hx
   refine ⟨x.toNat, (mem_keys _).2 ⟨?_, hx.2⟩, by omega⟩
   cases e : m x.toNat with
   |none => rw [e] at hx; exact absurd hx.2 (by decide)
   |some p => exact hm.in_ _ p e
theorem size_intKeys {H : Type} {P : Program} {k : TypeId} {R : Value -> Option (DataW H × List MemPlace)} {b c : Nat} {D : DataW H} (h : w.ownsMap P k R b c D) : Maps.size D = (intKeys D).length := by
 obtain ⟨es, rfl, _⟩ := h.keysOf
 simp [Maps.size, intKeys]
theorem size_keys {c : Nat} {D : DataW (List UInt8)} (hm : m.Ok n) (hn : n <= 1024) (ho : w.ownsMap Tryz.prog 3 rdPg g c D) (hD : SaysB D m) : Maps.size D = (m.keys n).length := by
 rw [size_intKeys ho, <- (keys_perm hm hn ho hD).length_eq, List.length_map]
theorem Pgm.fit (h : Pgm w g n m) : ∃ D, w.ownsMap Tryz.prog 3 rdPg g (m.keys n).length D /\ SaysB D m /\ Maps.size D = (m.keys n).length := by
 obtain ⟨h1, h2, c, D, ho, hD⟩ := h
 have hs := size_keys h1 h2 ho hD
 exact ⟨D, hs ▸ ownsMap_fit ho, hD, hs⟩
theorem SaysB.put {D : DataW (List UInt8)} (hM : IsMap D) (hD : SaysB D m) (i : Nat) (p : List UInt8) : SaysB (D.put (.int .i64 (i : Int)) (.held p)) (m.put i p) := by
 refine ⟨fun x => ?_, fun k q hk z => ?_⟩
 ·by_cases e : x = (i : Int)
  ·subst e
   rw [has_put_same hM (show WideAt.IsKeyLit (.int .i64 (i : Int)) from trivial)]
   have : ((i : Int)).toNat = i := by omega
   simp [Bm.put, this]
  ·have hne : (Lit.int .i64 x) ≠ .int .i64 (i : Int) := by
    intro h
    injection h with _ h
    exact e h
   rw [has_put_other hne, hD.1 x]
   by_cases h0 : 0 <= x
   ·have : x.toNat ≠ i := by omega
    simp [Bm.put, this]
   ·simp [h0]
 ·unfold Bm.put at hk
  by_cases e : k = i
  ·subst e
   rw [if_pos rfl] at hk
   injection hk with hk
   subst hk
   exact atKey_put_same hM (show WideAt.IsKeyLit (.int .i64 (k : Int)) from trivial) _ _
  ·rw [if_neg e] at hk
   have hne : (Lit.int .i64 (k : Int)) ≠ .int .i64 (i : Int) := by
    intro h
    injection h with _ h
    omega
   rw [atKey_put_other hne]
   exact hD.2 k q hk z
theorem wpList_putPg {ops : Array Oper} {rest : List Oper} {o : Oper} {a : Act} {Q : Exit -> Act -> World -> Prop} (hg : o.guard = none) (x y v : Operand)
  (hop : o.op = Op.mapUpdate 78 x y v) (hm : a.eval x = .map (some g)) (h : Pgm w g n m) (i : Nat) (hi : i < n) (p : List UInt8) (hp : p.length = 512) (hx : a.eval y = .int .i64 i) (hv : a.eval v = .agg (bcs p).toArray)
  (hK : ∀ w', Pgm w' g n (m.put i p) -> Kp (fun k => k = g) w w' -> wpList Tryz.prog ops Q rest (a.put o.dst undef) w') :
  wpList Tryz.prog ops Q (o :: rest) a w := by
 obtain ⟨D, ho, hD, hs⟩ := h.fit
 obtain ⟨h1, h2, _⟩ := h
 have hle := keys_le m n
 refine wpList_mapUpdate_own w hg x y v _ hop 3 107 keyedI Tryz.underlying78 _ g _ D hm ho (by simp only [maxLen]; omega) _ _ (.int .i64 i) hx hv (keyOf_int_mk Tryz.underlying3 (wf_i64 i (by omega))) _ _ (rdPg_mk p hp) ?_
 intro w' ho' hgr
 exact hK w' ⟨h1.put hi hp, h2, _, _, ho', hD.put ho.isMap i p⟩ ⟨hgr.os, hgr.tape, hgr.output, hgr.size, fun k hk hs => hgr.block k hk (by simpa using hs)⟩
theorem wp_putPg {o : Oper} {a : Act} {K : Act -> World -> Prop} {Q : Exit -> Act -> World -> Prop} (x y v : Operand)
  (hop : o.op = Op.mapUpdate 78 x y v) (hm : a.eval x = .map (some g)) (h : Pgm w g n m) (i : Nat) (hi : i < n) (p : List UInt8) (hp : p.length = 512) (hx : a.eval y = .int .i64 i) (hv : a.eval v = .agg (bcs p).toArray)
  (hK : ∀ w', Pgm w' g n (m.put i p) -> Kp (fun k => k = g) w w' -> K (a.put o.dst undef) w') : o.wp Tryz.prog a w K Q := by
 obtain ⟨D, ho, hD, hs⟩ := h.fit
 obtain ⟨h1, h2, _⟩ := h
 have hle := keys_le m n
 obtain ⟨w', hrun, r1, hgr⟩ := ho.update keyedI Tryz.underlying78 (show (m.keys n).length < maxLen by simp only [maxLen]; omega) (keyOf_int_mk Tryz.underlying3 (wf_i64 i (by omega))) (rdPg_mk p hp)
 unfold Oper.wp
 simp [execOp, hop, hm, hx, hv, hrun, Result.andThen]
 exact hK w' ⟨h1.put hi hp, h2, _, _, r1, hD.put ho.isMap i p⟩ ⟨hgr.os, hgr.tape, hgr.output, hgr.size, fun k hk hs => hgr.block k hk (by simpa using hs)⟩
theorem wpList_lookPg {ops : Array Oper} {rest : List Oper} {o : Oper} {a : Act} {Q : Exit -> Act -> World -> Prop} (hg : o.guard = none) (x y : Operand)
  (hop : o.op = Op.lookup 78 x y true) (hm : a.eval x = .map (some g)) (h : Pgm w g n m) (i : Nat) (hi : i < 9223372036854775808) (hx : a.eval y = .int .i64 i)
  (hn : m i = none -> ∀ p : List UInt8, p.length = 512 -> wpList Tryz.prog ops Q rest (a.put o.dst (.tuple #[.agg (bcs p).toArray, .bool false])) w)
  (hs : ∀ p, m i = some p -> p.length = 512 -> wpList Tryz.prog ops Q rest (a.put o.dst (.tuple #[.agg (bcs p).toArray, .bool true])) w) :
  wpList Tryz.prog ops Q (o :: rest) a w := by
 obtain ⟨h1, h2, c, D, ho, hD⟩ := h
 refine wpList_lookup_own_ok w hg x y _ hop 3 107 keyedI Tryz.underlying78 rdPg (zeroPg w) _ _ (rdPg_mk _ zsec_length) g c D hm ho _ (.int .i64 i) hx (keyOf_int_mk Tryz.underlying3 (wf_i64 i hi)) ?_
 intro v ps hv
 obtain ⟨t, ht, rfl, hz⟩ := rdPg_inv hv
 have hh := hD.1 (i : Int)
 rw [show ((i : Int)).toNat = i by omega] at hh
 rw [hh]
 cases hF : m i with
 |none => simpa using hn hF t ht
 |some p =>
  have := hD.2 i p hF (.held zsec)
  injection hz with hz _
  rw [this] at hz
  injection hz with hz
  subst hz
  simpa using hs p hF ht
theorem wpList_getPg {ops : Array Oper} {rest : List Oper} {o : Oper} {a : Act} {Q : Exit -> Act -> World -> Prop} (hg : o.guard = none) (x y : Operand)
  (hop : o.op = Op.lookup 78 x y false) (hm : a.eval x = .map (some g)) (h : Pgm w g n m) (i : Nat) (hi : i < 9223372036854775808) (hx : a.eval y = .int .i64 i) (p : List UInt8) (hp : m i = some p)
  (hs : p.length = 512 -> wpList Tryz.prog ops Q rest (a.put o.dst (.agg (bcs p).toArray)) w) :
  wpList Tryz.prog ops Q (o :: rest) a w := by
 obtain ⟨h1, h2, c, D, ho, hD⟩ := h
 refine wpList_plain hg fun K' hK' => ?_
 obtain ⟨v, ps, hrun, hv⟩ := ho.lookup keyedI Tryz.underlying78 (zeroPg w) (rdPg_mk _ zsec_length) (keyOf_int_mk Tryz.underlying3 (wf_i64 i hi))
 obtain ⟨t, ht, rfl, hz⟩ := rdPg_inv hv
 have := hD.2 i p hp (.held zsec)
 injection hz with hz _
 rw [this] at hz
 injection hz with hz
 subst hz
 unfold Oper.wp
 simp [execOp, hop, hm, hx, hrun, Result.andThen]
 exact hK' _ _ (hs ht)
theorem Pgm.len (h : Pgm w g n m) (ty : TypeId) : (Builtin.len_ #[78] ty #[.map (some g)]).run Tryz.prog w = .ok (.int .i64 (m.keys n).length) w := by
 obtain ⟨D, ho, hD, hs⟩ := h.fit
 rw [<- hs]
 exact ho.len Tryz.underlying78 ty
end
end Go.Proofs.YtepaeliamhjgiaaGreatDoor
namespace Go.Proofs.YtepaeliamhjgiaaGreatDoor
open Go.RowKit Go.Maps Go.Shelf
structure Stp where
 f : FuncId
 pre : Array Value
 cap : Array Value
def Stp.v (s : Stp) : Value := .func (.func s.f) s.pre s.cap
def Stp.args (s : Stp) : Array Value := s.pre ++ s.cap
theorem order_any (l : List Stp) (g c : Nat) (w : World) (I : Nat -> World -> Prop) (E : Int -> World -> Prop) (hg : ∀ i W, I i W -> ∀ j s, l[j]? = some s -> W.cell? ⟨g, j, none⟩ = some s.v)
  (h0 : I 0 w) (he : ∀ s ∈ l, Enters Tryz.prog s.f) (hlen : (l.length : Int) <= 100)
  (hs : ∀ i s W, l[i]? = some s -> I i W -> Calls Tryz.prog s.f s.args W fun e W' => ∃ q : Int, e = .returned (.int .i64 q) /\ ((q = 0 /\ I (i + 1) W') \/ (q ≠ 0 /\ E q W'))) :
  Calls Tryz.prog 42 #[.slice (some ⟨g, 0, none⟩) l.length c] w fun e W => (e = .returned (.int .i64 0) /\ I l.length W) \/ ∃ q : Int, q ≠ 0 /\ e = .returned (.int .i64 q) /\ E q W := by
 have HG := hHd hg
 have HS := hHd hs
 have H0 := hHd h0
 have HE := hHd he
 clear hg hs h0 he
 go_enter Tryz.func42, Tryz.ntmps42
 go_wp2_with fail
 go_loopw [8] (fun s8 wr => ∃ k : Nat, k <= l.length /\ s8 = .int .i64 k /\ I k wr) (fun s8 _ => l.length - (Go.RowKit.intOf s8).toNat)
 case atStart => exact ⟨0, Nat.zero_le _, rfl, H0.out⟩
 case round =>
  obtain ⟨k, hk, rfl, hi⟩ := hrel
  have HI := hHd hi
  clear hi
  by_cases hlt : k < l.length
  ·obtain ⟨s, hx⟩ : ∃ s, l[k]? = some s := ⟨_, List.getElem?_eq_getElem hlt⟩
   have y := HG.out k wr HI.out k s hx
   have hst := HS.out k s wr hx HI.out
   have hen := HE.out s (List.mem_of_getElem? hx)
   obtain ⟨f, pre, cap⟩ := s
   unfold Stp.v at y
   unfold Stp.args at hst
   dsimp only at y hst hen
   have HST := hHd hst
   have HEN := hHd hen
   clear hx hst hen
   go_wp2_with fail
   rw [HEN.out, Oper.upon_enter]
   refine HST.out.mono ?_
   rintro e w2 ⟨q, rfl, hq⟩
   rcases hq with ⟨rfl, h2⟩ | ⟨h1, h2⟩
   ·have H2 := hHd h2
    clear h2 y
    go_wp2_with fail
    go_roundw
    case rel => exact ⟨k + 1, by omega, by go_num, H2.out⟩
    case measure => simp [Go.RowKit.intOf]; omega
   ·have H2 := hHd (And.intro h1 h2)
    have hne : (q != 0) = true := by simpa using h1
    clear h2 y h1
    go_wp2_with fail
    go_ret
    exact .inr ⟨q, H2.out.1, rfl, H2.out.2⟩
  ·obtain rfl : k = l.length := by omega
   go_wp2_with fail
   go_ret
   exact .inl ⟨rfl, HI.out⟩
theorem wpList_store_part {ops : Array Oper} {rest : List Oper} {op : Oper} {a : Act} {w : World} {Q : Exit -> Act -> World -> Prop} (hgd : op.guard = none) (ty : TypeId) (x y : Operand) (ho : op.op = .store ty x y)
  (g : Nat) (pre old cs post : List Value) (hx : a.eval x = .pointer (some ⟨g, pre.length, none⟩)) (hy : a.eval y = .agg cs.toArray) {t : TypeId} (hb : Box w g t (pre ++ old ++ post).toArray) (hl : old.length = cs.length)
  (hi : (Tryz.prog.info? ty).map (·.size) = some cs.length) (h1 : ∀ v ∈ cs, v.oneCell' = true)
  (k : ∀ W, Box W g t (pre ++ cs ++ post).toArray -> Kp (fun k => k = g) w W -> wpList Tryz.prog ops Q rest (a.put op.dst undef) W) : wpList Tryz.prog ops Q (op :: rest) a w := by
 have hth := hb.there
 refine wpList_store_mid hgd ty x y ho g pre.length cs.toArray hx hy (fun j hj => ?_) (by simpa using hi) (all_oneCell_toArray h1) ?_
 ·have := hth (pre.length + j) (by simp at hj ⊢; omega)
  rwa [Nat.zero_add] at this
 ·refine k _ ?_ (Kp.setCells _ pre.length w (Kp.refl _ w) (.inr rfl))
  have := Box.writes cs pre.length w (pre ++ old ++ post) hb (by simp; omega)
  have e : (pre ++ old ++ post).take pre.length ++ cs ++ (pre ++ old ++ post).drop (pre.length + cs.length) = pre ++ cs ++ post := by
   rw [List.append_assoc pre old post, List.take_left' rfl, <- hl, <- List.drop_drop, List.drop_left' rfl, List.drop_left' rfl]
  rwa [e] at this
theorem wp_store_part {op : Oper} {a : Act} {w : World} {K : Act -> World -> Prop} {Q : Exit -> Act -> World -> Prop} (ty : TypeId) (x y : Operand) (ho : op.op = .store ty x y)
  (g : Nat) (pre old cs post : List Value) (hx : a.eval x = .pointer (some ⟨g, pre.length, none⟩)) (hy : a.eval y = .agg cs.toArray) {t : TypeId} (hb : Box w g t (pre ++ old ++ post).toArray) (hl : old.length = cs.length)
  (hi : (Tryz.prog.info? ty).map (·.size) = some cs.length) (h1 : ∀ v ∈ cs, v.oneCell' = true)
  (k : ∀ W, Box W g t (pre ++ cs ++ post).toArray -> Kp (fun k => k = g) w W -> K (a.put op.dst undef) W) : op.wp Tryz.prog a w K Q := by
 have hth := hb.there
 refine wp_store_mid ty x y ho g pre.length cs.toArray hx hy (fun j hj => ?_) (by simpa using hi) (all_oneCell_toArray h1) ?_
 ·have := hth (pre.length + j) (by simp at hj ⊢; omega)
  rwa [Nat.zero_add] at this
 ·refine k _ ?_ (Kp.setCells _ pre.length w (Kp.refl _ w) (.inr rfl))
  have := Box.writes cs pre.length w (pre ++ old ++ post) hb (by simp; omega)
  have e : (pre ++ old ++ post).take pre.length ++ cs ++ (pre ++ old ++ post).drop (pre.length + cs.length) = pre ++ cs ++ post := by
   rw [List.append_assoc pre old post, List.take_left' rfl, <- hl, <- List.drop_drop, List.drop_left' rfl, List.drop_left' rfl]
  rwa [e] at this
def sth (gl b : Nat) (note : List UInt8) : List Value := [.pointer (some ⟨gl, 0, none⟩), .pointer (some ⟨b, 0, none⟩), .string ⟨note.toArray⟩]
def stc (gl b : Nat) (note : List UInt8) (um : List Value) (vl vc : Value) (cm : List Value) (dead : Bool) : List Value := sth gl b note ++ um ++ [vl, vc] ++ cm ++ [.bool dead]
structure Sto (F : Nat -> Prop) (w : World) (gs gl b g1 g2 : Nat) (s : Sm) (d : Dm) : Prop where
 fs : F gs
 fl : F gl
 f1 : F g1
 f2 : F g2
 ne : g1 ≠ g2
 box : Box w gs 86 (stc gl b s.note (Bt.mcs s.used s.n) (.map (some g1)) (.map (some g2)) (Bt.mcs s.cused s.n) s.dead).toArray
 lg : Box w gl 130 (lcs b s.l)
 late : Pgm w g1 s.n s.late
 chg : Pgm w g2 s.n s.chg
 dk : Dsk (fun k => F k /\ k ≠ g1 /\ k ≠ g2) w b d
 u : Bt.Wf s.used s.n
 cu : Bt.Wf s.cused s.n
theorem mcs17 (f : Nat -> Bool) (n : Nat) : ∃ a0 a1 a2 a3 a4 a5 a6 a7 a8 a9 b0 b1 b2 b3 b4 b5, Bt.mcs f n = [a0, a1, a2, a3, a4, a5, a6, a7, a8, a9, b0, b1, b2, b3, b4, b5, .int .i64 (n : Int)] := by
 refine ⟨.int .u64 ((Bt.wd f 0 : Nat) : Int), .int .u64 ((Bt.wd f 1 : Nat) : Int), .int .u64 ((Bt.wd f 2 : Nat) : Int), .int .u64 ((Bt.wd f 3 : Nat) : Int), .int .u64 ((Bt.wd f 4 : Nat) : Int), .int .u64 ((Bt.wd f 5 : Nat) : Int), .int .u64 ((Bt.wd f 6 : Nat) : Int), .int .u64 ((Bt.wd f 7 : Nat) : Int), .int .u64 ((Bt.wd f 8 : Nat) : Int), .int .u64 ((Bt.wd f 9 : Nat) : Int), .int .u64 ((Bt.wd f 10 : Nat) : Int), .int .u64 ((Bt.wd f 11 : Nat) : Int), .int .u64 ((Bt.wd f 12 : Nat) : Int), .int .u64 ((Bt.wd f 13 : Nat) : Int), .int .u64 ((Bt.wd f 14 : Nat) : Int), .int .u64 ((Bt.wd f 15 : Nat) : Int), ?_⟩
 simp [Bt.mcs, List.range_succ]
section
variable {F : Nat -> Prop} {w w' : World} {gs gl b g1 g2 : Nat} {s : Sm} {d : Dm}
theorem Sto.still (h : Sto F w gs gl b g1 g2 s d) (hk : Kp (fun _ => False) w w') : Sto F w' gs gl b g1 g2 s d :=
 ⟨h.fs, h.fl, h.f1, h.f2, h.ne, h.box.kp hk (fun e => e), h.lg.kp hk (fun e => e), h.late.still hk, h.chg.still hk, h.dk.still hk, h.u, h.cu⟩
theorem Sto.mono {F' : Nat -> Prop} (h : Sto F w gs gl b g1 g2 s d) (hF : ∀ k, F k -> F' k) : Sto F' w gs gl b g1 g2 s d :=
 ⟨hF _ h.fs, hF _ h.fl, hF _ h.f1, hF _ h.f2, h.ne, h.box, h.lg, h.late, h.chg, h.dk.mono (fun k e => ⟨hF k e.1, e.2⟩), h.u, h.cu⟩
theorem Sto.kp {S : Nat -> Prop} (h : Sto F w gs gl b g1 g2 s d) (hk : Kp S w w') (hn : ∀ k, F k -> ¬ S k) : Sto F w' gs gl b g1 g2 s d :=
 ⟨h.fs, h.fl, h.f1, h.f2, h.ne, h.box.kp hk (hn _ h.fs), h.lg.kp hk (hn _ h.fl), h.late.kp hk (hn _ h.f1), h.chg.kp hk (hn _ h.f2), h.dk.kp hk (fun k e => hn k e.1), h.u, h.cu⟩
theorem Sto.cells (h : Sto F w gs gl b g1 g2 s d) : w.cell? ⟨gs, 0, none⟩ = some (.pointer (some ⟨gl, 0, none⟩)) /\ w.cell? ⟨gs, 1, none⟩ = some (.pointer (some ⟨b, 0, none⟩)) /\ w.cell? ⟨gs, 2, none⟩ = some (.string ⟨s.note.toArray⟩) /\
  w.cell? ⟨gs, 20, none⟩ = some (.map (some g1)) /\ w.cell? ⟨gs, 21, none⟩ = some (.map (some g2)) /\ w.cell? ⟨gs, 39, none⟩ = some (.bool s.dead) := by
 have hb := h.box
 obtain ⟨_, _, _, _, _, _, _, _, _, _, _, _, _, _, _, _, e1⟩ := mcs17 s.used s.n
 obtain ⟨_, _, _, _, _, _, _, _, _, _, _, _, _, _, _, _, e2⟩ := mcs17 s.cused s.n
 rw [e1, e2] at hb
 exact ⟨hb.cell 0, hb.cell 1, hb.cell 2, hb.cell 20, hb.cell 21, hb.cell 39⟩
theorem box_range {t : TypeId} {g : Nat} (pre cs post : List Value) (h : Box w g t (pre ++ cs ++ post).toArray) : w.rangeAt g pre.length cs := fun j v hj => by
 have hl : j < cs.length := (List.getElem?_eq_some_iff.1 hj).1
 rw [h.cell, List.getElem?_toArray, List.getElem?_append_left (by simp; omega), List.getElem?_append_right (by omega), Nat.add_sub_cancel_left]
 exact hj
theorem Sto.used (h : Sto F w gs gl b g1 g2 s d) : w.rangeAt gs 3 (Bt.mcs s.used s.n) := by
 have hb := h.box
 unfold stc at hb
 rw [List.append_assoc, List.append_assoc] at hb
 exact box_range (sth gl b s.note) _ _ hb
theorem Sto.cused (h : Sto F w gs gl b g1 g2 s d) : w.rangeAt gs 22 (Bt.mcs s.cused s.n) := by
 have hb := h.box
 have := box_range (sth gl b s.note ++ Bt.mcs s.used s.n ++ [.map (some g1), .map (some g2)]) _ _ hb
 have e : (sth gl b s.note ++ Bt.mcs s.used s.n ++ [Value.map (some g1), .map (some g2)]).length = 22 := by simp [sth, Bt.mcs_length]
 rwa [e] at this
end
theorem punless_any (b : Bool) (q : Int) (w : World) :
  Calls Tryz.prog 116 #[.bool b, .int .i64 q] w fun e w' => e = .returned (.int .i64 (if b then 0 else q)) /\ w = w' := by
 cases b
 ·go_enter Tryz.func116, Tryz.ntmps116
  go_wp2_with fail
  go_ret
  exact ⟨rfl, rfl⟩
 ·go_enter Tryz.func116, Tryz.ntmps116
  go_wp2_with fail
  go_ret
  exact ⟨rfl, rfl⟩
theorem pis_any (gs : Nat) (w : World) :
  Calls Tryz.prog 63 #[.pointer (some ⟨gs, 0, none⟩)] w fun e w' => e = .returned (.int .i64 0) /\ w = w' := by
 go_enter Tryz.func63, Tryz.ntmps63
 go_wp2_with fail
 refine (punless_any _ _ _).mono ?_
 rintro e w' ⟨rfl, rfl⟩
 go_wp2_with fail
 go_ret
 exact ⟨rfl, rfl⟩
theorem pis_nil (w : World) :
  Calls Tryz.prog 63 #[.pointer none] w fun e w' => e = .returned (.int .i64 1) /\ w = w' := by
 go_enter Tryz.func63, Tryz.ntmps63
 go_wp2_with fail
 refine (punless_any _ _ _).mono ?_
 rintro e w' ⟨rfl, rfl⟩
 go_wp2_with fail
 go_ret
 exact ⟨rfl, rfl⟩
theorem psector_any (L i : Nat) (hL : L <= 100000) (hi : i <= 100000) (w : World) :
  Calls Tryz.prog 52 #[.int .i64 L, .int .i64 i] w fun e w' => e = .returned (.int .i64 ((2 + L + i : Nat) : Int)) /\ w = w' := by
 obtain ⟨q, hq⟩ : ∃ q, 2 + L + i = q := ⟨_, rfl⟩
 have e1 : IntKind.i64.wrap (2 + (L : Int)) = ((2 + L : Nat) : Int) := by rw [IntWalk.i64_in _ (by omega)]; omega
 have e2 : IntKind.i64.wrap (((2 + L : Nat) : Int) + (i : Int)) = (q : Int) := by rw [IntWalk.i64_in _ (by omega)]; omega
 generalize 2 + L = r at e1 e2 hq
 rw [hq]
 clear hq hL hi
 go_enter Tryz.func52, Tryz.ntmps52
 go_wp2_with fail
 go_ret
 exact ⟨rfl, rfl⟩
section
variable {F : Nat -> Prop} {w : World} {gs gl b g1 g2 : Nat} {s : Sm} {d : Dm}
theorem ppages_any (h : Sto F w gs gl b g1 g2 s d) :
  Calls Tryz.prog 16 #[.pointer (some ⟨gs, 0, none⟩)] w fun e w' => e = .returned (.int .i64 s.n) /\ Kp (fun _ => False) w w' := by
 have H := hHd h
 clear h
 go_enter Tryz.func16, Tryz.ntmps16
 go_wp2_with (first | (refine wpList_load_mid rfl 82 (.tmp 7) rfl gs 3 rfl (Bt.mcs s.used s.n) _ H.out.used Tryz.underlying82 rfl (Bt.infoMca _ _) ?_) | fail)
 refine (Bt.len_any s.used s.n w).mono ?_
 rintro e w1 ⟨rfl, hk⟩
 have K := hHd hk
 clear hk
 go_wp2_with fail
 go_ret
 exact ⟨rfl, K.out⟩
end
end Go.Proofs.YtepaeliamhjgiaaGreatDoor
namespace Go.Proofs.YtepaeliamhjgiaaGreatDoor
open Go.Shelf
def Tryz.keysA_ren : Go.Shelf.Ren := ⟨fun | 7 => 150 | 10 => 168 | n => n, fun | 23 => 78 | 26 => 3 | 3 => 107 | 28 => 196 | 0 => 0 | 27 => 143 | 33 => 73 | 4 => 4 | n => n, fun | n => n⟩
theorem Tryz.keysA : Go.Proofs.SlLaysZI.n7 Tryz.prog Tryz.keysA_ren := {
 mixed := by kernel_rfl
 f7 := ⟨Tryz.f150.name, by decide, Tryz.func150.trans (congrArg some (by kernel_rfl))⟩
 f10 := ⟨Tryz.f168.name, by decide, Tryz.func168.trans (congrArg some (by kernel_rfl))⟩
 t0 := Tryz.underlying0
 a0 := Tryz.isAgg0
 z0 := Tryz.sizeOf0
 v0 := Tryz.zeroValue0
 t4 := Tryz.underlying4
 a4 := Tryz.isAgg4
 z4 := Tryz.sizeOf4
 v4 := Tryz.zeroValue4
 t23 := Tryz.underlying78
 a23 := Tryz.isAgg78
 z23 := Tryz.sizeOf78
 v23 := Tryz.zeroValue78
 t26 := Tryz.underlying3
 a26 := Tryz.isAgg3
 z26 := Tryz.sizeOf3
 v26 := Tryz.zeroValue3
 t27 := Tryz.underlying143
 a27 := Tryz.isAgg143
 z27 := Tryz.sizeOf143
 v27 := Tryz.zeroValue143
 t28 := Tryz.underlying196
 a28 := Tryz.isAgg196
 z28 := Tryz.sizeOf196
 v28 := Tryz.zeroValue196
 t33 := Tryz.underlying73
 a33 := Tryz.isAgg73
 z33 := Tryz.sizeOf73
 v33 := Tryz.zeroValue73 }
def Tryz.sortedA_ren : Go.Shelf.Ren := ⟨fun | 6 => 149 | 8 => 166 | 9 => 167 | 11 => 182 | 13 => 184 | 12 => 183 | 23 => 200 | 24 => 201 | 14 => 191 | 15 => 192 | 16 => 193 | 17 => 194 | 18 => 195 | 19 => 196 | 20 => 197 | 21 => 198 | 22 => 199 | 25 => 203 | 26 => 204 | 27 => 205 | 28 => 206 | 29 => 207 | 30 => 208 | 31 => 209 | n => n, fun | 26 => 3 | 28 => 196 | 24 => 147 | 0 => 0 | 3 => 3 | 37 => 204 | 48 => 217 | 50 => 79 | 4 => 4 | 40 => 244 | 39 => 243 | 45 => 110 | 5 => 5 | 9 => 9 | 51 => 252 | 55 => 256 | 57 => 258 | 58 => 193 | 33 => 73 | n => n, fun | n => n⟩
theorem Tryz.sortedA : Go.Proofs.SlLaysZI.n6 Tryz.prog Tryz.sortedA_ren := {
 mixed := by kernel_rfl
 f6 := ⟨Tryz.f149.name, by decide, Tryz.func149.trans (congrArg some (by kernel_rfl))⟩
 f8 := ⟨Tryz.f166.name, by decide, Tryz.func166.trans (congrArg some (by kernel_rfl))⟩
 f11 := ⟨Tryz.f182.name, by decide, Tryz.func182.trans (congrArg some (by kernel_rfl))⟩
 t0 := Tryz.underlying0
 a0 := Tryz.isAgg0
 z0 := Tryz.sizeOf0
 v0 := Tryz.zeroValue0
 t24 := Tryz.underlying147
 a24 := Tryz.isAgg147
 z24 := Tryz.sizeOf147
 v24 := Tryz.zeroValue147
 t26 := Tryz.underlying3
 a26 := Tryz.isAgg3
 z26 := Tryz.sizeOf3
 v26 := Tryz.zeroValue3
 t28 := Tryz.underlying196
 a28 := Tryz.isAgg196
 z28 := Tryz.sizeOf196
 v28 := Tryz.zeroValue196
 i26 := by kernel_rfl }
def Tryz.sortA_ren : Go.Shelf.Ren := ⟨fun | 5 => 167 | 8 => 184 | 7 => 183 | 19 => 200 | 20 => 201 | 10 => 191 | 11 => 192 | 12 => 193 | 13 => 194 | 14 => 195 | 15 => 196 | 16 => 197 | 17 => 198 | 18 => 199 | 30 => 203 | 31 => 204 | 32 => 205 | 33 => 206 | 34 => 207 | 35 => 208 | 40 => 209 | n => n, fun | 23 => 147 | 25 => 3 | 3 => 3 | 32 => 204 | 22 => 147 | 0 => 0 | 44 => 217 | 46 => 79 | 4 => 4 | 36 => 244 | 35 => 243 | 41 => 110 | 5 => 5 | 9 => 9 | 53 => 252 | 57 => 256 | 63 => 258 | 64 => 193 | n => n, fun | n => n⟩
theorem Tryz.sortA : Go.Proofs.SlLaysM.n5 Tryz.prog Tryz.sortA_ren := {
 mixed := by kernel_rfl
 f5 := ⟨Tryz.f167.name, by decide, Tryz.func167.trans (congrArg some (by kernel_rfl))⟩
 f7 := ⟨Tryz.f183.name, by decide, Tryz.func183.trans (congrArg some (by kernel_rfl))⟩
 f8 := Tryz.func184.trans (congrArg some (by kernel_rfl))
 f10 := ⟨Tryz.f191.name, by decide, Tryz.func191.trans (congrArg some (by kernel_rfl))⟩
 f11 := ⟨Tryz.f192.name, by decide, Tryz.func192.trans (congrArg some (by kernel_rfl))⟩
 f12 := ⟨Tryz.f193.name, by decide, Tryz.func193.trans (congrArg some (by kernel_rfl))⟩
 f13 := ⟨Tryz.f194.name, by decide, Tryz.func194.trans (congrArg some (by kernel_rfl))⟩
 f14 := ⟨Tryz.f195.name, by decide, Tryz.func195.trans (congrArg some (by kernel_rfl))⟩
 f15 := ⟨Tryz.f196.name, by decide, Tryz.func196.trans (congrArg some (by kernel_rfl))⟩
 f16 := ⟨Tryz.f197.name, by decide, Tryz.func197.trans (congrArg some (by kernel_rfl))⟩
 f17 := ⟨Tryz.f198.name, by decide, Tryz.func198.trans (congrArg some (by kernel_rfl))⟩
 f18 := ⟨Tryz.f199.name, by decide, Tryz.func199.trans (congrArg some (by kernel_rfl))⟩
 f19 := Tryz.func200.trans (congrArg some (by kernel_rfl))
 f20 := Tryz.func201.trans (congrArg some (by kernel_rfl))
 f30 := ⟨Tryz.f203.name, by decide, Tryz.func203.trans (congrArg some (by kernel_rfl))⟩
 f31 := Tryz.func204.trans (congrArg some (by kernel_rfl))
 f32 := Tryz.func205.trans (congrArg some (by kernel_rfl))
 f33 := ⟨Tryz.f206.name, by decide, Tryz.func206.trans (congrArg some (by kernel_rfl))⟩
 f34 := ⟨Tryz.f207.name, by decide, Tryz.func207.trans (congrArg some (by kernel_rfl))⟩
 f35 := ⟨Tryz.f208.name, by decide, Tryz.func208.trans (congrArg some (by kernel_rfl))⟩
 f40 := ⟨Tryz.f209.name, by decide, Tryz.func209.trans (congrArg some (by kernel_rfl))⟩
 t0 := Tryz.underlying0
 a0 := Tryz.isAgg0
 z0 := Tryz.sizeOf0
 v0 := Tryz.zeroValue0
 t3 := Tryz.underlying3
 a3 := Tryz.isAgg3
 z3 := Tryz.sizeOf3
 v3 := Tryz.zeroValue3
 t4 := Tryz.underlying4
 a4 := Tryz.isAgg4
 z4 := Tryz.sizeOf4
 v4 := Tryz.zeroValue4
 t5 := Tryz.underlying5
 a5 := Tryz.isAgg5
 z5 := Tryz.sizeOf5
 v5 := Tryz.zeroValue5
 t9 := Tryz.underlying9
 a9 := Tryz.isAgg9
 z9 := Tryz.sizeOf9
 v9 := Tryz.zeroValue9
 t22 := Tryz.underlying147
 a22 := Tryz.isAgg147
 z22 := Tryz.sizeOf147
 v22 := Tryz.zeroValue147
 t23 := Tryz.underlying147
 a23 := Tryz.isAgg147
 z23 := Tryz.sizeOf147
 v23 := Tryz.zeroValue147
 t25 := Tryz.underlying3
 a25 := Tryz.isAgg3
 z25 := Tryz.sizeOf3
 v25 := Tryz.zeroValue3
 t32 := Tryz.underlying204
 a32 := Tryz.isAgg204
 z32 := Tryz.sizeOf204
 v32 := Tryz.zeroValue204
 t35 := Tryz.underlying243
 a35 := Tryz.isAgg243
 z35 := Tryz.sizeOf243
 v35 := Tryz.zeroValue243
 t36 := Tryz.underlying244
 a36 := Tryz.isAgg244
 z36 := Tryz.sizeOf244
 v36 := Tryz.zeroValue244
 t41 := Tryz.underlying110
 a41 := Tryz.isAgg110
 z41 := Tryz.sizeOf110
 v41 := Tryz.zeroValue110
 t44 := Tryz.underlying217
 a44 := Tryz.isAgg217
 z44 := Tryz.sizeOf217
 v44 := Tryz.zeroValue217
 t46 := Tryz.underlying79
 a46 := Tryz.isAgg79
 z46 := Tryz.sizeOf79
 v46 := Tryz.zeroValue79
 t53 := Tryz.underlying252
 a53 := Tryz.isAgg252
 z53 := Tryz.sizeOf252
 v53 := Tryz.zeroValue252
 t57 := Tryz.underlying256
 a57 := Tryz.isAgg256
 z57 := Tryz.sizeOf256
 v57 := Tryz.zeroValue256
 t63 := Tryz.underlying258
 a63 := Tryz.isAgg258
 z63 := Tryz.sizeOf258
 v63 := Tryz.zeroValue258
 t64 := Tryz.underlying193
 a64 := Tryz.isAgg193
 z64 := Tryz.sizeOf193
 v64 := Tryz.zeroValue193 }
end Go.Proofs.YtepaeliamhjgiaaGreatDoor
namespace Go.Proofs.YtepaeliamhjgiaaGreatDoor
open Go.RowKit Go.Maps Go.Sort Go.Shelf
theorem sortsA (m : Nat) : AnyZI.SortsIn Tryz.prog Tryz.sortedA_ren Fence.wide m :=
  ⟨fun blk off cap ss W hH hblk hsz => callsIn_wide.2 (AnyM.slices_Sort_int Tryz.sortA blk off cap ss W hH hblk hsz),
   fun p cap W => callsIn_wide.2 (AnyM.slices_Sort_int_none Tryz.sortA p cap W)⟩
theorem Kp.of_below0 {w w' : World} (h : Below w.heap.size w w') : Kp (fun _ => False) w w' := by
  have hk := Kp.of_below h
  exact ⟨hk.os, hk.tape, hk.output, hk.size, fun k hk2 _ => hk.block k hk2 (by omega)⟩
theorem keys_sorted (m : Bm) (n : Nat) {ss : List Int} (h : ((m.keys n).map fun i : Nat => (i : Int)).Perm ss) : ss.mergeSort (fun x y => decide (x ≤ y)) = (m.keys n).map fun i : Nat => (i : Int) := by
  have h1 : ss.mergeSort leI = ((m.keys n).map fun i : Nat => (i : Int)).mergeSort leI := (mergeSort_of_perm_i h).symm
  have h2 : ((m.keys n).map fun i : Nat => (i : Int)).Pairwise (fun a b => leI a b = true) := by
    refine List.pairwise_map.2 ?_
    have : (m.keys n).Pairwise (· < ·) := List.Pairwise.sublist List.filter_sublist List.pairwise_lt_range
    exact this.imp fun {a b} h => by simp only [leI, decide_eq_true_eq]; omega
  have h3 := List.mergeSort_of_pairwise h2
  show ss.mergeSort leI = _
  rw [h1, h3]
theorem rising_any {w : World} {g n : Nat} {m : Bm} (h : Pgm w g n m) :
    Calls Tryz.prog 107 #[.map (some g)] w fun e w' => ∃ v, e = .returned v ∧ w'.ownsRow w.heap.size 3 1 v (m.keys n).length ((m.keys n).map fun i : Nat => .int .i64 (i : Int)) ∧ Kp (fun _ => False) w w' := by
  have hm1 := h.1
  have hm2 := h.2.1
  obtain ⟨D0, hown, hD, hsz⟩ := h.fit
  have hle := keys_le m n
  have hmax : Maps.size D0 ≤ maxLen := by rw [hsz]; simp only [maxLen]; omega
  have hbytes : Maps.size D0 * 8 ≤ 140737488355328 := by rw [hsz]; omega
  have hperm := keys_perm hm1 hm2 hown hD
  have hbl := hown.lt
  refine (callsIn_wide (n := 6)).1 ?_
  have hseq : SeqGives Fence.wide 2 Tryz.prog 168 #[.pointer (some ⟨w.heap.size, 0, none⟩)] encZ (fun ss => ss.Perm (intKeys D0)) (Maps.size D0) (w.alloc (.cells #[.map (some g)] 78)) :=
    AnyZI.keys_gives (ρ := Tryz.keysA_ren) { Tryz.keysA with } Fence.wide _ trivial rfl (by omega) w.heap.size g _ D0 _ (by simp) (by simp) (by
      obtain ⟨es, clock, hb, Ft, hs, hD⟩ := hown
      exact ⟨es, clock, (Below.heap_alloc _ _ g hbl).trans hb, Ft, hs, hD⟩)
  have cK : ∀ mb W, CallsIn Fence.wide 5 Tryz.prog 150 #[.map mb] W fun e w' => e = .returned (.func (.func 168) #[] #[.pointer (some ⟨W.heap.size, 0, none⟩)]) ∧ w' = W.alloc (.cells #[.map mb] 78) := fun mb W => AnyZI.keys_in Tryz.keysA Fence.wide 5 trivial rfl mb W
  have cS := AnyZI.sorted_in Tryz.sortedA Fence.wide 5 trivial trivial trivial trivial rfl (by omega) (sortsA _) (enters_of Tryz.func167 (by kernel_rfl) rfl) 168 #[.pointer (some ⟨w.heap.size, 0, none⟩)] trivial (enters_of Tryz.func168 (by kernel_rfl) rfl) _ _ hmax hbytes _ hseq
  change CallsIn _ _ Tryz.prog 149 _ _ _ at cS
  have hfK : Fence.wide.fn 150 := trivial
  have hfS : Fence.wide.fn 149 := trivial
  refine callsIn_of_wp Tryz.func107 rfl trivial ?_ rfl
  simp only [Tryz.ntmps107, List.size_toArray, List.length_cons, List.length_nil, Nat.reduceAdd, Nat.reduceSub, Array.replicate_succ, Array.replicate_zero, List.push_toArray, List.append_toArray, List.nil_append, List.cons_append]
  gi_wp2_with (first
    | (gi_at_call 150; refine (cK _ _).mono ?_; rintro e w' ⟨rfl, rfl⟩)
    | (gi_at_call 149; refine cS.mono ?_; rintro e w' ⟨v, ss, rfl, hS, hrow, hnil, hb⟩))
  go_ret
  have hk := Kp.of_below0 hb
  have hl : ss.length = (m.keys n).length := by have := (hperm.trans hS.symm).length_eq; simpa using this.symm
  have hso := keys_sorted m n (hperm.trans hS.symm)
  rw [hso, hl] at hrow
  refine ⟨v, rfl, ?_, ((Kp.refl _ w).alloc _).trans hk⟩
  have := ownsRow_base_a hrow (Nat.le_trans (Nat.le_succ _) (Nat.le_of_eq (World.size_alloc _ _).symm))
  rw [List.map_map] at this
  exact this
end Go.Proofs.YtepaeliamhjgiaaGreatDoor
