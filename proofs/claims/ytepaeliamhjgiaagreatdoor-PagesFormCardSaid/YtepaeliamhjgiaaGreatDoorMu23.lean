/- The law of pages, part 23 of 55: PgStepB Byt ShLaid BtIter. -/
import Derived.Test.YtepaeliamhjgiaaGreatDoorMu22
import Derived.Test.YtepaeliamhjgiaaGreatDoorMu1
import Derived.Test.YtepaeliamhjgiaaGreatDoorChecked
import Derived.ProofKit
import Derived.Deep.Slices
import Derived.Deep.Fields
import Derived.ChangeSame
import Derived.ChangeOld
import Derived.OpenShut
import Derived.LaidMore
import Derived.Test.YtepaeliamhjgiaaGreatDoorMu10
import Derived.Test.YtepaeliamhjgiaaGreatDoorRows
import Derived.Test.YtepaeliamhjgiaaGreatDoorCards
import Derived.Test.YtepaeliamhjgiaaGreatDoorTie
import Derived.SevenTiedAt
import Derived.Stop.Joined
import Derived.RangeFuncNested
import Derived.RangeFuncBound
import Derived.RangeFuncCalls
import Derived.RangeFuncLeaves
import Derived.Shelf.Abstract
import Derived.Shelf.RegionOpen
import Derived.WalkKit
import Derived.OwnWalkIn
import Derived.TacticsInMore
import Derived.LoopNIn
import Derived.LoopIn
import Derived.BigRegionIn
import Derived.Sort.QuietIn
set_option maxHeartbeats 16000000
set_option maxRecDepth 100000
namespace Go.Proofs.YtepaeliamhjgiaaGreatDoor
def nowC (C : Nat -> List UInt8) (m : Bm) : Nat -> List UInt8 := fun i => (m i).getD (C i)
section
variable {d : Dm} {s : Sm} {L n N : Nat} {hn : List UInt8} {C : Nat -> List UInt8}
theorem St.com1 (h : St d s L n hn C N) (hN : N + 512 < 18446744073709551616) :
  ((s.l.commitS d (s.chg.text n)).2.2 = 0 /\ need (s.chg.text n).length <= L /\ St (s.l.commitS d (s.chg.text n)).2.1 ({ s with l := (s.l.commitS d (s.chg.text n)).1 } : Sm).doneS L n hn (nowC C s.chg) (N + 512) /\ (d.lit = false -> (s.l.commitS d (s.chg.text n)).2.1.lit = false)) \/
  ((s.l.commitS d (s.chg.text n)) = (s.l, d, 6) /\ L < need (s.chg.text n).length) \/
  ((s.l.commitS d (s.chg.text n)) = (s.l, d, 5) /\ need (s.chg.text n).length <= L /\ s.l.left < need (s.chg.text n).length) \/
  ((s.l.commitS d (s.chg.text n)).2.2 = 4 /\ need (s.chg.text n).length <= L /\ d.lit = true /\ Off (s.l.commitS d (s.chg.text n)).2.1 /\ (s.l.commitS d (s.chg.text n)).2.1.on.length = d.on.length /\
   (Rc (s.l.commitS d (s.chg.text n)).2.1.on L n hn C (N + 512) \/ Rc (s.l.commitS d (s.chg.text n)).2.1.on L n hn (nowC C s.chg) (N + 512))) := by
 obtain ⟨ss, bs, h1, h2, h3, h4⟩ := h.log
 have hd := h1.alive
 have hL := h.hL
 by_cases c1 : L < need (s.chg.text n).length
 ·right; left
  exact ⟨by simp [Lm.commitS, hd, hL, c1], c1⟩
 by_cases c2 : s.l.left < need (s.chg.text n).length
 ·right; right; left
  exact ⟨by simp [Lm.commitS, hd, hL, c1, c2], by omega, c2⟩
 have hco := commit_out h1 (s.chg.text n) hN h.up
 obtain ⟨f1, f2, f3, f4⟩ := commit_far h1 (s.chg.text n) h.up
 have hno : ¬ ((s.l.commitS d (s.chg.text n)).2.2 = 5 \/ (s.l.commitS d (s.chg.text n)).2.2 = 6) := by
  have e : s.l.commitS d (s.chg.text n) = if (Dm.putAll s.l.h.n (cutL s.l.next (s.chg.text n)) d).2 = 0 then ({ s.l with next := (s.l.next + need (s.chg.text n).length) % 18446744073709551616, left := s.l.left - need (s.chg.text n).length }, (Dm.putAll s.l.h.n (cutL s.l.next (s.chg.text n)) d).1, 0) else ({ s.l with dead := (Dm.putAll s.l.h.n (cutL s.l.next (s.chg.text n)) d).2 == 4 }, (Dm.putAll s.l.h.n (cutL s.l.next (s.chg.text n)) d).1, (Dm.putAll s.l.h.n (cutL s.l.next (s.chg.text n)) d).2) := by
   simp [Lm.commitS, hd, hL, c1, c2]
  rw [e]
  have hlo := h1.o.hok.lo
  rcases putAll_out s.l.h.n (by omega) (cutL s.l.next (s.chg.text n)) d h.up.power (shLe _ _) h1.o.len with ⟨g, _⟩ | ⟨g, _⟩
  ·rw [if_pos g]; show ¬ ((0 : Int) = 5 \/ (0 : Int) = 6); decide
  ·rw [if_neg (by rw [g]; decide), g]; show ¬ ((4 : Int) = 5 \/ (4 : Int) = 6); decide
 have hnow : ∀ i, i < n -> onV (s.l.commitS d (s.chg.text n)).2.1.on (2 + L + i) = onV d.on (2 + L + i) := fun i _ => f3 _ (.inr (by omega))
 have hhd : ∃ x a, countS (headS (onV (s.l.commitS d (s.chg.text n)).2.1.on 0)) (headS (onV (s.l.commitS d (s.chg.text n)).2.1.on 1)) = some (x, a) /\ x.n = L /\ x.note = hn := by
  rw [f3 0 (.inl (by decide)), f3 1 (.inl (by decide))]
  exact ⟨s.l.h, s.l.a, h1.o.heads, hL, h.hh⟩
 generalize s.l.commitS d (s.chg.text n) = r at hco f1 f2 f3 f4 hno hnow hhd ⊢
 obtain ⟨l1, d1, e1⟩ := r
 dsimp only at hco f1 f2 f3 f4 hno hnow hhd ⊢
 have hbs : ∀ m ∈ bs ++ [s.chg], m.Ok n := fun m hm => by
  rcases List.mem_append.1 hm with hm | hm
  ·exact h3 m hm
  ·obtain rfl : m = s.chg := by simpa using hm
   exact h.chg
 have hov : ∀ i, i < n -> ((overs (bs ++ [s.chg])) i).getD (onV d1.on (2 + L + i)) = nowC C s.chg i := fun i hi => by
  rw [overs_snoc, hnow i hi, <- h4]
  unfold Bm.over nowC
  rw [<- h.now i hi]
  cases s.chg i <;> rfl
 rcases hco with ⟨rfl, ⟨ss', w, p⟩, u⟩ | ⟨w, _⟩ | ⟨rfl, w, u⟩
 ·left
  refine ⟨rfl, by omega, ⟨u, h.alive, ⟨ss', bs ++ [s.chg], w, by rw [p, h2]; simp, hbs, ?_⟩, by rw [<- hL]; exact congrArg Hd.n f1, by rw [<- h.hh]; exact congrArg Hd.note f1, h.hs, fun i hi => ?_, by rw [f2]; exact h.in_, bnone_ok n⟩, fun hl => (f4 hl).2⟩
  ·show s.late.over s.chg = _
   rw [overs_snoc, h4]
  ·show ((s.late.over s.chg) i).getD _ = _
   rw [<- hov i hi, overs_snoc, h4]
 ·exact absurd w hno
 ·right; right; right
  have hlt : d.lit = true := by
   cases hl : d.lit with
   |true => rfl
   |false => exact absurd rfl (f4 hl).1
  refine ⟨rfl, by omega, hlt, u, f2, ?_⟩
  rcases w with w | w
  ·left
   refine ⟨⟨bs, h3, ⟨by rw [<- h2]; exact w, hhd⟩, fun i hi => ?_⟩, by rw [f2]; exact h.in_⟩
   rw [hnow i hi, <- h4]
   exact h.now i hi
  ·right
   refine ⟨⟨bs ++ [s.chg], hbs, ⟨?_, hhd⟩, hov⟩, by rw [f2]; exact h.in_⟩
   rw [List.map_append, <- h2]
   exact w
theorem St.commit (h : St d s L n hn C N) (hN : N + 600 < 18446744073709551616) (hk : s.chg.keys n ≠ []) :
  ((s.commitS d).2.2 = 0 /\ need (s.chg.text n).length <= L /\ St (s.commitS d).2.1 (s.commitS d).1 L n hn (nowC C s.chg) (N + 600) /\ (∃ l1 lt, (s.commitS d).1 = { s with l := l1, late := lt, used := s.cused, chg := bnone }) /\ (d.lit = false -> (s.commitS d).2.1.lit = false)) \/
  (s.commitS d = (s.abortS, d, 6) /\ L < need (s.chg.text n).length) \/
  ((s.commitS d).2.2 = 4 /\ need (s.chg.text n).length <= L /\ d.lit = true /\ Off (s.commitS d).2.1 /\ (s.commitS d).2.1.on.length = d.on.length /\ (Rc (s.commitS d).2.1.on L n hn C (N + 600) \/ Rc (s.commitS d).2.1.on L n hn (nowC C s.chg) (N + 600))) := by
 have hs := h.hs
 have e : s.commitS d = if (s.l.commitS d (s.chg.text n)).2.2 = 5 then
   (if (({ s with l := (s.l.commitS d (s.chg.text n)).1 } : Sm).trimS (s.l.commitS d (s.chg.text n)).2.1).2.2 = 0 then
    ({ (({ s with l := (s.l.commitS d (s.chg.text n)).1 } : Sm).trimS (s.l.commitS d (s.chg.text n)).2.1).1 with l := ((({ s with l := (s.l.commitS d (s.chg.text n)).1 } : Sm).trimS (s.l.commitS d (s.chg.text n)).2.1).1.l.commitS (({ s with l := (s.l.commitS d (s.chg.text n)).1 } : Sm).trimS (s.l.commitS d (s.chg.text n)).2.1).2.1 (s.chg.text n)).1 } : Sm).endS
     ((({ s with l := (s.l.commitS d (s.chg.text n)).1 } : Sm).trimS (s.l.commitS d (s.chg.text n)).2.1).1.l.commitS (({ s with l := (s.l.commitS d (s.chg.text n)).1 } : Sm).trimS (s.l.commitS d (s.chg.text n)).2.1).2.1 (s.chg.text n)).2.1
     ((({ s with l := (s.l.commitS d (s.chg.text n)).1 } : Sm).trimS (s.l.commitS d (s.chg.text n)).2.1).1.l.commitS (({ s with l := (s.l.commitS d (s.chg.text n)).1 } : Sm).trimS (s.l.commitS d (s.chg.text n)).2.1).2.1 (s.chg.text n)).2.2
    else (({ s with l := (s.l.commitS d (s.chg.text n)).1 } : Sm).trimS (s.l.commitS d (s.chg.text n)).2.1).1.endS (({ s with l := (s.l.commitS d (s.chg.text n)).1 } : Sm).trimS (s.l.commitS d (s.chg.text n)).2.1).2.1 (({ s with l := (s.l.commitS d (s.chg.text n)).1 } : Sm).trimS (s.l.commitS d (s.chg.text n)).2.1).2.2)
   else ({ s with l := (s.l.commitS d (s.chg.text n)).1 } : Sm).endS (s.l.commitS d (s.chg.text n)).2.1 (s.l.commitS d (s.chg.text n)).2.2 := by
  unfold Sm.commitS
  rw [h.alive, h.up.power, hs]
  simp only [Bool.not_true, Bool.or_false, Bool.false_eq_true, if_false]
  rw [if_neg hk]
 rw [e]
 clear e
 rcases h.com1 (by omega) with ⟨e0, c0, c1, c2⟩ | ⟨e0, c0⟩ | ⟨e0, c0, c1⟩ | ⟨e0, c0, c1, c2, c3, c4⟩
 ·left
  rw [if_neg (by rw [e0]; decide), e0]
  refine ⟨rfl, c0, c1.mono (by omega), ⟨(s.l.commitS d (s.chg.text n)).1, s.late.over s.chg, rfl⟩, c2⟩
 ·right; left
  rw [e0]
  exact ⟨rfl, c0⟩
 ·rw [e0, if_pos rfl]
  dsimp only
  rcases h.trim (by omega) with ⟨t0, t1, ⟨l1, t2, t3⟩, t4, t5⟩ | ⟨t0, t1, t2, t3, t4⟩
  ·rw [if_pos t0]
   generalize s.trimS d = q at t0 t1 t2 t4 t5 ⊢
   obtain ⟨s2, d2, e2⟩ := q
   dsimp only at t0 t1 t2 t4 t5 ⊢
   subst t2
   have hc := t1.com1 (by omega)
   dsimp only at hc
   rcases hc with ⟨e0', c0', c1', c2'⟩ | ⟨_, c0'⟩ | ⟨_, _, c0'⟩ | ⟨e0', c0', c1', c2', c3', c4'⟩
   ·left
    rw [e0']
    refine ⟨rfl, c0, c1'.mono (by omega), ⟨(l1.commitS d2 (s.chg.text n)).1, bnone.over s.chg, rfl⟩, fun hl => c2' (t4 hl)⟩
   ·omega
   ·omega
   ·right; right
    rw [e0']
    have hlt : d.lit = true := by
     cases hl : d.lit with
     |true => rfl
     |false => rw [t4 hl] at c1'; cases c1'
    exact ⟨rfl, c0, hlt, c2', (by show (l1.commitS d2 (s.chg.text n)).2.1.on.length = _; rw [c3', t5]), c4'.imp (fun x => x.mono (by omega)) (fun x => x.mono (by omega))⟩
  ·rw [if_neg (by rw [t0]; decide), t0]
   right; right
   exact ⟨rfl, c0, t1, t3, t4, .inl (t2.mono (by omega))⟩
 ·right; right
  rw [if_neg (by rw [e0]; decide), e0]
  exact ⟨rfl, c0, c1, c2, c3, c4.imp (fun x => x.mono (by omega)) (fun x => x.mono (by omega))⟩
theorem Rc.open (h : Rc d.on L n hn C N) (hu : Up d) (hN : N + 1 < 18446744073709551616) : ∃ l bs, d.openS = (some (l, bs.map fun m => m.text n), 0) /\ (∀ m ∈ bs, Bm.Ok m n) /\ l.h.n = L /\ l.h.note = hn /\ Wo d.on l N /\
  (∀ i, i < n -> (overs bs i).getD (onV d.on (2 + L + i)) = C i) /\
  ∀ note used, ((d.openP l n note bs used).2.2 = 0 /\ (∃ l1, (d.openP l n note bs used).1 = some ⟨l1, n, note, used, bnone, bnone, used, false⟩ /\ St (d.openP l n note bs used).2.1 ⟨l1, n, note, used, bnone, bnone, used, false⟩ L n hn C (N + 1)) /\ (d.lit = false -> (d.openP l n note bs used).2.1.lit = false) /\ (d.openP l n note bs used).2.1.on.length = d.on.length) \/
   ((d.openP l n note bs used).2.2 = 4 /\ d.lit = true /\ (d.openP l n note bs used).1 = none /\ Rc (d.openP l n note bs used).2.1.on L n hn C (N + 1) /\ Off (d.openP l n note bs used).2.1 /\ (d.openP l n note bs used).2.1.on.length = d.on.length) := by
 obtain ⟨bs, h3, hw, hnow⟩ := h.out
 obtain ⟨l, o1, o2, o3, o4, o5⟩ := open_out hw.wc (by omega) hu
 obtain ⟨x, a, x1, x2, x3⟩ := hw.hd
 have hlx : l.h = x := by
  have := o2.heads
  rw [x1] at this
  injection this with this
  injection this with this _
  exact this.symm
 have hL : l.h.n = L := by rw [hlx]; exact x2
 have hh : l.h.note = hn := by rw [hlx]; exact x3
 refine ⟨l, bs, o1, h3, hL, hh, o2, hnow, fun note used => ?_⟩
 have hlo := o2.hok.lo
 have e : d.openP l n note bs used = if (Dm.thenFlush (Dm.putBs (2 + L) n bs d)).2 = 0 then
   (if (l.trimS (Dm.thenFlush (Dm.putBs (2 + L) n bs d)).1).2.2 = 0 then (some ⟨(l.trimS (Dm.thenFlush (Dm.putBs (2 + L) n bs d)).1).1, n, note, used, bnone, bnone, used, false⟩, (l.trimS (Dm.thenFlush (Dm.putBs (2 + L) n bs d)).1).2.1, 0)
    else (none, (l.trimS (Dm.thenFlush (Dm.putBs (2 + L) n bs d)).1).2.1, (l.trimS (Dm.thenFlush (Dm.putBs (2 + L) n bs d)).1).2.2))
   else (none, (Dm.thenFlush (Dm.putBs (2 + L) n bs d)).1, (Dm.thenFlush (Dm.putBs (2 + L) n bs d)).2) := by
  unfold Dm.openP
  rw [hL]
 rw [e]
 clear e
 have hf := fl_out (o := 2 + L) h3 hu h.in_
 generalize Dm.thenFlush (Dm.putBs (2 + L) n bs d) = r at hf ⊢
 obtain ⟨d2, e2⟩ := r
 dsimp only at hf ⊢
 rcases hf with ⟨rfl, f2, f3, f4, f5, f6⟩ | ⟨rfl, f2, f3, f4, f5, f6⟩
 ·rw [if_pos rfl]
  have o2' : Wo d2.on l N := o2.far f3 (by rw [hL]; exact f4)
  have hto := trim_out o2' hN o3 f2
  obtain ⟨t1, t2, t3, t4, t5, t6, t7⟩ := trim_far o2' hN o3 f2
  have hpg : ∀ i, i < n -> onV d2.on (2 + L + i) = C i := fun i hi => by rw [f5 i hi]; exact hnow i hi
  have htx : textsF (onV d2.on) l.h.n l.h.f = bs.map fun m => m.text n := by rw [textsF_far (by omega) (by rw [hL]; exact f4)]; exact o5
  rw [htx] at hto
  generalize l.trimS d2 = q at hto t1 t2 t3 t4 t5 t6 t7 ⊢
  obtain ⟨l1, d3, e3⟩ := q
  dsimp only at hto t1 t2 t3 t4 t5 t6 t7 ⊢
  rcases hto with ⟨rfl, w, u⟩ | ⟨rfl, w, u⟩
  ·rw [if_pos rfl]
   left
   refine ⟨rfl, ⟨l1, rfl, ⟨u, rfl, ⟨[], [], w, rfl, (fun m hm => by simp at hm), rfl⟩, by rw [<- hL]; exact t1, by rw [<- hh]; exact t2, rfl, fun i hi => ?_, by rw [t3, f3]; exact h.in_, bnone_ok n⟩⟩, fun hl => t7 (f6 hl), by rw [t3, f3]⟩
   show onV d3.on (2 + L + i) = C i
   rw [t4 _ (by omega)]
   exact hpg i hi
  ·rw [if_neg (by decide)]
   right
   have hlt : d.lit = true := by
    cases hl : d.lit with
    |true => rfl
    |false => rw [f6 hl] at t6; exact absurd (t6 rfl) (by decide)
   rw [hL, hh] at t5
   have pg : ∀ i, i < n -> onV d3.on (2 + L + i) = C i := fun i hi => by rw [t4 _ (by omega)]; exact hpg i hi
   refine ⟨rfl, hlt, rfl, ?_, u, by rw [t3, f3]⟩
   rcases w with w | w
   ·refine ⟨⟨bs, h3, ⟨w, t5⟩, fun i hi => ?_⟩, by rw [t3, f3]; exact h.in_⟩
    rw [pg i hi]
    have := hnow i hi
    cases hx : overs bs i with
    |some p => rw [hx] at this; exact this
    |none => rfl
   ·exact ⟨⟨[], (fun m hm => by simp at hm), ⟨w, t5⟩, fun i hi => by show onV d3.on (2 + L + i) = C i; exact pg i hi⟩, by rw [t3, f3]; exact h.in_⟩
 ·rw [if_neg (by decide)]
  right
  refine ⟨rfl, f2, rfl, ⟨⟨bs, h3, (hw.far f4 f5).mono (Nat.le_succ _), fun i hi => ?_⟩, by rw [f4]; exact h.in_⟩, f3, f4⟩
  have := hnow i hi
  cases hx : overs bs i with
  |some p => rw [hx] at this; exact this
  |none => rw [hx] at this; rw [f6 i hx]; exact this
end
end Go.Proofs.YtepaeliamhjgiaaGreatDoor
namespace Go.Proofs.YtepaeliamhjgiaaGreatDoor
open Go.ChangeShapes Go.WideShapes Go.ChangeAt Go.RowKit
open Go.Deep (open_slice choose_lt)
section
variable {H : Type} {enc : TypeId × Value -> H} {W : World}
theorem laid_array {P : Program} {t e : TypeId} {k : IntKind} {n fuel : Nat} {enc : TypeId × Value -> H} {sp : Nat -> Bool} {held : Bool} {cs : List Value} {zs : List Int} {p : List MemPlace}
  (ht : P.underlying t = some (.array n e)) (he : P.underlying e = some (.int k)) (hc : P.cellsOf e = 1)
  (h : DataW.trod enc P W 0 sp held fuel t cs = some (.agg (zs.map fun z => .lit (.int k z)), p)) (i : Nat) (z : Int) (hi : i < n) (hz : zs[i]? = some z) : cs[i]? = some (.int k z) := by
 obtain ⟨xs, m, rfl, hx, hl, hn, hel⟩ := DataW.trod_array ht h
 have h0 := hel i hi
 rw [hc, Nat.mul_one] at h0
 simp only [Prod.mk.injEq, DataW.agg.injEq] at hx
 have hxi : (xs.map (·.1))[i]? = some (.lit (.int k z)) := by rw [<- hx.1, List.getElem?_map, hz]; rfl
 rw [List.getElem?_map] at hxi
 obtain ⟨y, hy, hy1⟩ := Option.map_eq_some_iff.1 hxi
 rw [hy] at h0
 obtain ⟨z', e1, e2, _⟩ := DataW.trod_int he h0
 rw [e2] at hy1
 have : z' = z := by simpa using hy1
 subst this
 have := congrArg (fun l => l[0]?) e1
 simpa [List.getElem?_take, List.getElem?_drop] using this
end
end Go.Proofs.YtepaeliamhjgiaaGreatDoor
namespace Go.Proofs.YtepaeliamhjgiaaGreatDoor
open Go.ChangeShapes Go.WideShapes Go.ChangeAt Go.RowKit
def laidL : List (String × DataW Unit) := [("armarium/crc.halves", Rows.laid_armarium_crc_halves)]
theorem gHalves : Tryz.prog.globalNamed "armarium/crc.halves" = some 1 := by kernel_rfl
theorem tHalves : (Tryz.prog.globals[1]?).map (·.type) = some 241 := by kernel_rfl
theorem cU32 : Tryz.prog.cellsOf 217 = 1 := by kernel_rfl
def tabZ : List Int := [0, 274646895, 549293790, 820201905, 1098587580, 1361435347, 1640403810, 1905808397, 2197175160, 2460548119, 2722870694, 2987750089, 3280807620, 3553878443, 3811616794, 4084100981]
theorem tabZ_get (i : Nat) (hi : i < 16) : tabZ[i]? = some ((tab i : Nat) : Int) := by
 have h : ∀ i : Fin 16, tabZ[i.val]? = some ((tab i.val : Nat) : Int) := by decide +kernel
 exact h ⟨i, hi⟩
theorem door_met (os : Os) (args : Array Value) : laidMetH Tryz.prog laidL ((World.doorLaid Tryz.prog 400 os).forCall (fun _ _ => 0) ⟨#[], args, []⟩).memory :=
 laidMetH_of_parts3 (fuel := 8) (laidMet_of_run' 8 (by kernel_rfl) (by kernel_rfl)) (by kernel_rfl) (by kernel_rfl)
theorem tbl_of_laid {W : World} (h : laidMetH Tryz.prog laidL W) : Tbl W := by
 rw [MakeChecks.laidMetH_plain _ _ _ (by kernel_rfl)] at h
 obtain ⟨ps, ⟨g0, t0, cs0, f0, p0, q0, hg0, ht0, hv0, hd0, _, _⟩, _, _⟩ := h
 obtain rfl := Option.some.inj (gHalves.symm.trans hg0)
 obtain rfl := Option.some.inj (tHalves.symm.trans ht0)
 intro i hi
 have hc := laid_array (zs := tabZ) Tryz.underlying241 Tryz.underlying217 cU32 hd0 i ((tab i : Nat) : Int) hi (tabZ_get i hi)
 rw [World.var?_cell hg0 hv0 i, <- hc, Array.getElem?_toList]
theorem own : ownKnob Tryz.prog.godebug = none := by kernel_rfl
theorem laidOut : laidOutB Tryz.prog = true := by kernel_rfl
end Go.Proofs.YtepaeliamhjgiaaGreatDoor
namespace Go.Proofs.YtepaeliamhjgiaaGreatDoor.Bt
open Go.RowKit Go.Shelf
attribute [local go_sem] Oper.semAt_some
theorem back_in (F : Fence) (n : Nat) (h12 : F.fn 161) (hro : F.round = none) (A : Option Addr) (m c : Nat) (w : World) :
  CallsIn F n Tryz.prog 161 #[.slice A m c] w fun e w' => e = .returned (.func (.func 176) #[] #[.pointer (some ⟨w.heap.size, 0, none⟩)]) /\ w' = w.alloc (.cells #[.slice A m c] 50) := by
 refine callsIn_of_wp Tryz.func161 rfl h12 ?_ hro
 simp only [Tryz.ntmps161, List.size_toArray, List.length_cons, List.length_nil, Nat.reduceAdd, Nat.reduceSub, Array.replicate_succ, Array.replicate_zero, List.push_toArray, List.append_toArray, List.nil_append, List.cons_append]
 gi_wp2
 go_ret
 exact ⟨rfl, rfl⟩
theorem fin_take (m k : Nat) (h : k < m) : (List.finRange m).take (k + 1) = (List.finRange m).take k ++ [⟨k, h⟩] := by
 rw [List.take_succ_eq_append_getElem (by simpa using h)]
 simp
def backAt (l : List UInt8) (k : Nat) : Array Value := #[.int .i64 (((l.length - 1 - k : Nat)) : Int), .int .u8 (l.getD (l.length - 1 - k) 0).toNat]
theorem back1_in (F : Fence) (n : Nat) (h20 : F.fn 176) (hro : F.round = none) (_hn : 1 <= n) (y Bs b o m c : Nat) (l : List UInt8) (hmx : l.length <= 1048576) (hm : l.length = m) (J Jx : List (Fin m) -> World -> Prop)
  (hJd : ∀ n pre w, J pre w -> J pre (w.drewN n))
  (hY : ∀ pre x W, J pre W -> pre.length < m -> YieldAt F (n - 1) Tryz.prog y (backAt l x.1) W fun e W' =>
   (e = .returned (.bool true) /\ J (pre ++ [x]) W' /\ Kp (fun k => k ≠ Bs /\ k ≠ b) W W') \/ (e = .returned (.bool false) /\ Jx (pre ++ [x]) W'))
  (W : World) (hcs : W.cell? ⟨Bs, 0, none⟩ = some (.slice (some ⟨b, o, none⟩) l.length c)) (hcn : ∀ j u, l[j]? = some u -> W.cell? ⟨b, o + j, none⟩ = some (.int .u8 u.toNat)) (h0 : J [] W) :
  CallsIn F n Tryz.prog 176 #[.func (.yield y) #[] #[], .pointer (some ⟨Bs, 0, none⟩)] W fun e W' => (∃ v, e = .returned v) /\
   ((∃ ys, ys = List.finRange m /\ J ys W') \/ (∃ pre, (∃ k, k <= m /\ pre = (List.finRange m).take k) /\ Jx pre W')) := by
 have hbs := World.block_lt_of_cell? W ⟨Bs, 0, none⟩ hcs
 have Hcn := hHd hcn
 have H0 := hHd h0
 clear hcn h0
 refine callsIn_of_wp Tryz.func176 rfl h20 ?_ hro
 simp only [Tryz.ntmps176, List.size_toArray, List.length_cons, List.length_nil, Nat.reduceAdd, Nat.reduceSub, Array.replicate_succ, Array.replicate_zero, List.push_toArray, List.append_toArray, List.nil_append, List.cons_append]
 gi_wp2
 gi_loopw [3] (fun u wr => ∃ k : Nat, k <= m /\ u = .int .i64 ((m : Int) - 1 - k) /\ J ((List.finRange m).take k) wr /\ Kp (fun k => k ≠ Bs /\ k ≠ b) W wr)
  (fun u _ => (intOf u + 1).toNat)
 case atStart =>
  exact ⟨0, Nat.zero_le _, by simp, H0.out, Kp.refl _ _⟩
 case round =>
  obtain ⟨k, hk, rfl, hJs, hnx⟩ := hrel
  by_cases hlt : k < m
  ·have hyy := hY ((List.finRange m).take k) ⟨k, hlt⟩ wr hJs (by simp; omega)
   obtain ⟨i, hi⟩ : ∃ i : Nat, m - 1 - k = i := ⟨_, rfl⟩
   have hii : (m : Int) - 1 - k = (i : Int) := by omega
   have him : i < m := by omega
   have hgl : l[i]? = some (l.getD i 0) := by
    rw [List.getElem?_eq_getElem (by omega), List.getD_eq_getElem?_getD, List.getElem?_eq_getElem (by omega)]; rfl
   have e1 : backAt l k = #[.int .i64 (i : Int), .int .u8 (l.getD i 0).toNat] := by rw [backAt, hm, hi]
   simp only [e1] at hyy
   obtain ⟨x, hx⟩ : ∃ x, l.getD i 0 = x := ⟨_, rfl⟩
   rw [hx] at hgl hyy
   have hcx := Hcn.out i x hgl
   have c1 : wr.cell? ⟨Bs, 0, none⟩ = some (.slice (some ⟨b, o, none⟩) m c) := by
    rw [<- hm]
    exact (hnx.cell (p := ⟨Bs, 0, none⟩) hbs (fun h => h.1 rfl)).trans hcs
   have c2 : wr.cell? ⟨b, o + i, none⟩ = some (.int .u8 x.toNat) := (hnx.cell (p := ⟨b, o + i, none⟩) (World.block_lt_of_cell? W _ hcx) (fun h => h.2 rfl)).trans hcx
   have hmi : (i : Int) < m := by omega
   have hil : (i : Int) <= 1048576 := by omega
   have Hii := hHd hii
   have Hf := hHd (fin_take m k hlt)
   have Hnx := hHd hnx
   have hi2 : i = m - 1 - k := hi.symm
   obtain ⟨fn, tmps, assign, body, hy, hR⟩ := hyy
   have HR := hHd hR
   clear hR hi hgl e1 hx hcx hnx hJs hcs hm hi2
   rw [Hii.out]
   clear hii
   gi_wp2
   refine HR.out.mono ?_
   rintro e W3 (⟨rfl, hJ3, hk3⟩ | ⟨rfl, hJx3⟩)
   ·gi_wp2
    go_roundw
    case rel => exact ⟨k + 1, by omega, by have := Hii.out; congr 1; omega, by rw [Hf.out]; exact hJ3, Hnx.out.trans hk3⟩
    case measure => simp [intOf]
   ·gi_wp2
    refine bodyPost_ret (results_none rfl _ _ _) rfl ?_
    exact ⟨⟨_, rfl⟩, .inr ⟨_, ⟨k + 1, by omega, Hf.out.symm⟩, hJx3⟩⟩
  ·obtain rfl : k = m := by omega
   have hz : (k : Int) - 1 - k = -1 := by omega
   rw [hz]
   have hl : (List.finRange k).take k = List.finRange k := List.take_of_length_le (by rw [List.length_finRange]; omega)
   rw [hl] at hJs
   clear hl hz hlt
   gi_wp2
   go_end0
   exact ⟨⟨_, rfl⟩, .inl ⟨_, rfl, hJs⟩⟩
end Go.Proofs.YtepaeliamhjgiaaGreatDoor.Bt
