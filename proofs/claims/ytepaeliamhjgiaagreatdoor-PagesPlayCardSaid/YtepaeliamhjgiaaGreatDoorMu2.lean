/- The law of pages, part 2 of 55: DkDefs DkNeed DkBit DkRow. -/
import Derived.Test.YtepaeliamhjgiaaGreatDoorMu1
import Derived.Test.YtepaeliamhjgiaaGreatDoorChecked
import Derived.Maps.OwnSet
import Derived.StillTailTactics
import Derived.Deep.RegionHeld3
import Derived.Deep.AppendLies
import Derived.Deep.RegionLaw
import Derived.IntWalk
set_option maxHeartbeats 16000000
set_option maxRecDepth 100000
namespace Go.Proofs.YtepaeliamhjgiaaGreatDoor
open Go.RowKit Go.Maps Go.ChangeMaps Go.MapKept Go.WideShapes
theorem snoc_ind {α : Type} {P : List α -> Prop} (h0 : P []) (h1 : ∀ l x, P l -> P (l ++ [x])) (l : List α) : P l := by
 have h : ∀ r : List α, P r.reverse := fun r => by
  induction r with
  |nil => exact h0
  |cons x r ih => rw [List.reverse_cons]; exact h1 _ _ ih
 simpa using h l.reverse
structure Dm where
 on : List (List UInt8)
 wait : List (Nat × List UInt8)
 power : Bool
 lit : Bool
 left : Nat
 keep : List UInt8
 acts : Nat
def settleL (f : Nat -> Bool) (on : List (List UInt8)) (l : List (Nat × List UInt8)) : List (List UInt8) :=
 l.zipIdx.foldl (fun o x => if f x.2 then o.set x.1.1 x.1.2 else o) on
theorem settleL_snoc (f : Nat -> Bool) (on : List (List UInt8)) (l : List (Nat × List UInt8)) (x : Nat × List UInt8) :
  settleL f on (l ++ [x]) = if f l.length then (settleL f on l).set x.1 x.2 else settleL f on l := by
 simp [settleL, List.zipIdx_append]
theorem settleL_length (f : Nat -> Bool) (on : List (List UInt8)) (l : List (Nat × List UInt8)) : (settleL f on l).length = on.length := by
 induction l using snoc_ind with
 |h0 => rfl
 |h1 l x ih => rw [settleL_snoc]; split <;> simp [ih]
theorem settleL_each (f : Nat -> Bool) (on : List (List UInt8)) (l : List (Nat × List UInt8)) (n : Nat) (h : ∀ s ∈ on, s.length = n) (hl : ∀ x ∈ l, x.2.length = n) : ∀ s ∈ settleL f on l, s.length = n := by
 induction l using snoc_ind with
 |h0 => exact h
 |h1 l x ih =>
  have ih' := ih fun y hy => hl y (by simp [hy])
  rw [settleL_snoc]
  split
  ·intro s hs
   rcases List.mem_or_eq_of_mem_set hs with hs | rfl
   ·exact ih' s hs
   ·exact hl x (by simp)
  ·exact ih'
def bitOf (k : List UInt8) (i : Nat) : Bool := i / 8 < k.length && (k.getD (i / 8) 0).toNat / 2 ^ (i % 8) % 2 == 1
def Dm.lose (d : Dm) (k : List UInt8) : Dm := { d with on := settleL (bitOf k) d.on d.wait, wait := [], power := false, lit := false, left := 0, keep := [] }
def Dm.all (d : Dm) : Dm := { d with on := settleL (fun _ => true) d.on d.wait, wait := [] }
def Dm.act (d : Dm) : Dm := { d with left := if d.lit then d.left - 1 else d.left, acts := (d.acts + 1) % 18446744073709551616 }
def Dm.out (d : Dm) : Bool := d.lit && d.left == 0
structure Dm.ok (d : Dm) : Prop where
 few : d.on.length <= 4096
 some : 1 <= d.on.length
 each : ∀ s ∈ d.on, s.length = 512
 at_ : ∀ x ∈ d.wait, x.1 < d.on.length
 long : ∀ x ∈ d.wait, x.2.length = 512
 waits : d.wait.length < 1073741824
 left_ : d.left < 9223372036854775808
 acts_ : d.acts < 18446744073709551616
 keep_ : d.keep.length <= maxLen
def lastOf (l : List (Nat × List UInt8)) (at_ : Nat) : Option Nat := l.zipIdx.foldl (fun o x => if x.1.1 = at_ then some x.2 else o) none
theorem lastOf_snoc (l : List (Nat × List UInt8)) (x : Nat × List UInt8) (at_ : Nat) : lastOf (l ++ [x]) at_ = if x.1 = at_ then some l.length else lastOf l at_ := by
 simp [lastOf, List.zipIdx_append]
theorem lastOf_get (l : List (Nat × List UInt8)) (at_ : Nat) : ∀ i, lastOf l at_ = some i -> ∃ b, l[i]? = some (at_, b) := by
 induction l using snoc_ind with
 |h0 => intro i h; simp [lastOf] at h
 |h1 l x ih =>
  intro i h
  rw [lastOf_snoc] at h
  split at h
  ·next hx =>
   cases h
   exact ⟨x.2, by simp [<- hx]⟩
  ·obtain ⟨b, hb⟩ := ih i h
   exact ⟨b, by rw [List.getElem?_append_left (List.getElem?_eq_some_iff.1 hb).1]; exact hb⟩
def onCells (l : List (List UInt8)) : List Value := l.flatMap bcs
def waitCells (l : List (Nat × List UInt8)) : List Value := l.flatMap fun x => bcs x.2 ++ [.int .i64 x.1]
def Nm (w : World) (g : Nat) (l : List (Nat × List UInt8)) : Prop :=
 ∃ n, ∃ D : DataW Unit, w.ownsMap Tryz.prog 3 (plainElem Tryz.prog 3) g n D /\ n <= l.length /\
  ∀ a : Nat, has D (.int .i64 (a : Int)) = (lastOf l a).isSome /\ ∀ i, lastOf l a = some i -> D.atKey (.int .i64 (a : Int)) (.lit (.int .i64 0)) = .lit (.int .i64 (i : Int))
def dcs (d : Dm) (vs vw : Value) (gm : Nat) : Array Value := #[vs, vw, .map (some gm), .bool d.power, .bool d.lit, .int .i64 d.left, .string ⟨d.keep.toArray⟩, .int .u64 d.acts]
structure Dk (w : World) (b : Nat) (vs vw : Value) (gm : Nat) (d : Dm) : Prop where
 ok : d.ok
 box : Box w b 97 (dcs d vs vw gm)
 st : w.ownsRow 0 156 512 vs d.on.length (onCells d.on)
 wt : w.ownsRow 0 158 513 vw d.wait.length (waitCells d.wait)
 nm : Nm w gm d.wait
def Ft (b : Nat) (vs vw : Value) (gm k : Nat) : Prop := k = b \/ vs.ownBlock = some k \/ vw.ownBlock = some k \/ k = gm
def Dsk (F : Nat -> Prop) (w : World) (b : Nat) (d : Dm) : Prop := ∃ vs vw gm, Dk w b vs vw gm d /\ ∀ k, Ft b vs vw gm k -> F k
theorem infoSec : (Tryz.prog.info? 156).map (·.size) = some 512 := by kernel_rfl
theorem keyedI : Keyed Tryz.prog 3 := int_keyed Tryz.underlying3
theorem zeroI (w : World) : (zeroValue 3).run Tryz.prog w = .ok (.int .i64 0) w := by kernel_rfl
theorem Nm.kp {S : Nat -> Prop} {w w' : World} {g : Nat} {l : List (Nat × List UInt8)} (h : Nm w g l) (hk : Kp S w w') (hn : ¬ S g) : Nm w' g l := by
 obtain ⟨n, D, ho, r⟩ := h
 have hlt := ho.lt
 obtain ⟨es, clock, hb, r2⟩ := ho
 exact ⟨n, D, ⟨es, clock, (hk.block g hlt hn).trans hb, r2⟩, r⟩
theorem Nm.lt {w : World} {g : Nat} {l : List (Nat × List UInt8)} (h : Nm w g l) : g < w.heap.size := by
 obtain ⟨n, D, ho, r⟩ := h
 exact ho.lt
theorem down_kp {S : Nat -> Prop} {w w' : World} {base : Nat} {e : TypeId} {size n : Nat} {v : Value} {xs : List Value} (h : w.ownsRow base e size v n xs) (hk : Kp S w w') (hn : ∀ k, v.ownBlock = some k -> ¬ S k) : w'.ownsRow base e size v n xs := by
 refine ⟨h.1, ?_⟩
 rcases h.2 with hn | ⟨g, cap, cur, rfl, hb, hgg, rest⟩
 ·exact .inl hn
 ·exact .inr ⟨g, cap, cur, rfl, hb, (hk.block g (Array.getElem?_eq_some_iff.1 hgg).1 (hn g rfl)).trans hgg, rest⟩
theorem Dk.kp {S : Nat -> Prop} {w w' : World} {b : Nat} {vs vw : Value} {gm : Nat} {d : Dm} (h : Dk w b vs vw gm d) (hk : Kp S w w') (hn : ∀ k, Ft b vs vw gm k -> ¬ S k) : Dk w' b vs vw gm d :=
 ⟨h.ok, h.box.kp hk (hn b (.inl rfl)), down_kp h.st hk (fun k e => hn k (.inr (.inl e))), down_kp h.wt hk (fun k e => hn k (.inr (.inr (.inl e)))), h.nm.kp hk (hn gm (.inr (.inr (.inr rfl))))⟩
theorem Dk.lt {w : World} {b : Nat} {vs vw : Value} {gm : Nat} {d : Dm} (h : Dk w b vs vw gm d) : ∀ k, Ft b vs vw gm k -> k < w.heap.size := by
 rintro k (rfl | e | e | rfl)
 ·exact h.box.lt
 ·exact (h.st.lt k e).2
 ·exact (h.wt.lt k e).2
 ·exact h.nm.lt
theorem Dsk.kp {F S : Nat -> Prop} {w w' : World} {b : Nat} {d : Dm} (h : Dsk F w b d) (hk : Kp S w w') (hn : ∀ k, F k -> ¬ S k) : Dsk F w' b d := by
 obtain ⟨vs, vw, gm, h1, h2⟩ := h
 exact ⟨vs, vw, gm, h1.kp hk fun k hf => hn k (h2 k hf), h2⟩
theorem Dsk.mono {F F' : Nat -> Prop} {w : World} {b : Nat} {d : Dm} (h : Dsk F w b d) (hF : ∀ k, F k -> F' k) : Dsk F' w b d := by
 obtain ⟨vs, vw, gm, h1, h2⟩ := h
 exact ⟨vs, vw, gm, h1, fun k hk => hF k (h2 k hk)⟩
theorem Dk.apart {w : World} {b : Nat} {vs vw : Value} {gm : Nat} {d : Dm} (h : Dk w b vs vw gm d) : vs.ownBlock ≠ some b /\ vw.ownBlock ≠ some b /\ gm ≠ b /\ vs.ownBlock ≠ some gm /\ vw.ownBlock ≠ some gm /\ (∀ k, vs.ownBlock = some k -> vw.ownBlock ≠ some k) := by
 have hb := h.box
 obtain ⟨n, D, ⟨es, clock, hm, _⟩, _⟩ := h.nm
 have key : ∀ {e : TypeId} {size n : Nat} {v : Value} {xs : List Value} {k : Nat}, w.ownsRow 0 e size v n xs -> v.ownBlock = some k -> ∃ cur, w.heap[k]? = some (.cells cur e (0, 0)) := by
  intro e size n v xs k ho hk
  rcases ho.2 with ⟨rfl, _⟩ | ⟨g', cap, cur, rfl, _, hh, _⟩
  ·simp [Value.ownBlock] at hk
  ·simp [Value.ownBlock] at hk; subst hk; exact ⟨cur, hh⟩
 have hgb : gm ≠ b := by rintro rfl; unfold Box at hb; rw [hb] at hm; cases hm
 refine ⟨fun e => ?_, fun e => ?_, hgb, fun e => ?_, fun e => ?_, fun k e1 e2 => ?_⟩
 ·obtain ⟨cur, hc⟩ := key h.st e
  exact Box.type_ne (t := 156) hc hb (by decide) rfl
 ·obtain ⟨cur, hc⟩ := key h.wt e
  exact Box.type_ne (t := 158) hc hb (by decide) rfl
 ·obtain ⟨cur, hc⟩ := key h.st e; rw [hc] at hm; cases hm
 ·obtain ⟨cur, hc⟩ := key h.wt e; rw [hc] at hm; cases hm
 ·obtain ⟨cur, hc⟩ := key h.st e1
  obtain ⟨cur', hc'⟩ := key h.wt e2
  exact Box.type_ne (t := 156) (t' := 158) hc hc' (by decide) rfl
theorem Nm.clear {w : World} {g : Nat} {l : List (Nat × List UInt8)} (h : Nm w g l) (ty : TypeId) :
  ∃ w', (Builtin.clear_ #[92] ty #[.map (some g)]).run Tryz.prog w = .ok (.tuple #[]) w' /\ Nm w' g [] /\ Kp (fun k => k = g) w w' := by
 obtain ⟨n, D, ⟨es, clock, hb, F, hs, hD⟩, hn, hl⟩ := h
 refine ⟨setBlock w g (.map #[] clock), ?_, ⟨0, .map [], ⟨#[], clock, heap_setBlock_same hb _, ?_, Nat.le_refl _, rfl⟩, Nat.zero_le _, fun a => ⟨rfl, fun i hi => by simp [lastOf] at hi⟩⟩, ?_⟩
 ·simp [Builtin.clear_, run_underlying Tryz.underlying92, MapKept.run_getObj_map hb, MapKept.run_setObj_map _ hb, Result.andThen]
  rfl
 ·exact ⟨by simp, MapKept.stamped_empty clock, by simp⟩
 ·exact ⟨rfl, rfl, rfl, by simp [setBlock], fun k _ hk => heap_setBlock_other hb _ hk⟩
theorem wpList_clear {w : World} {ops : Array Oper} {rest : List Oper} {o : Oper} {a : Act} {Q : Exit -> Act -> World -> Prop} (hgd : o.guard = none) (x : Operand)
  (ho : o.op = .call { callee := .builtin .clear, args := #[x], argTypes := #[92] }) (g : Nat) (l : List (Nat × List UInt8)) (hx : a.eval x = .map (some g)) (h : Nm w g l)
  (hh : ∀ w', Nm w' g [] -> Kp (fun k => k = g) w w' -> wpList Tryz.prog ops Q rest (a.put o.dst (.tuple #[])) w') : wpList Tryz.prog ops Q (o :: rest) a w :=
 wpList_plain hgd fun _ hK => by
  obtain ⟨w', hrun, h2, h3⟩ := h.clear o.type
  unfold Oper.wp execOp
  simp only [ho, resolve, invoke, builtin, Sem.run_bind, Sem.run_pure, Result.andThen_ok, List.map_toArray, List.map_cons, List.map_nil, hx, hrun]
  exact hK _ _ (hh w' h2 h3)
end Go.Proofs.YtepaeliamhjgiaaGreatDoor
namespace Go.Proofs.YtepaeliamhjgiaaGreatDoor
open Go.RowKit Go.Maps
def okOr (c : Bool) (e : Int) : Int := if c then 0 else e
theorem okOr_t (e : Int) : okOr true e = 0 := rfl
theorem okOr_f (e : Int) : okOr false e = e := rfl
theorem unless_any (c : Bool) (e : Int) (w : World) : Calls Tryz.prog 130 #[.bool c, .int .i64 e] w fun r w' => r = .returned (.int .i64 (okOr c e)) /\ w = w' := by
 go_enter Tryz.func130, Tryz.ntmps130
 cases c
 all_goals
  go_wp2
  go_ret
  exact ⟨rfl, rfl⟩
section
variable {w : World} {b : Nat} {vs vw : Value} {gm : Nat} {d : Dm}
theorem Dk.c0 (h : Dk w b vs vw gm d) : w.cell? ⟨b, 0, none⟩ = some vs := h.box.cell 0
theorem Dk.c1 (h : Dk w b vs vw gm d) : w.cell? ⟨b, 1, none⟩ = some vw := h.box.cell 1
theorem Dk.c2 (h : Dk w b vs vw gm d) : w.cell? ⟨b, 2, none⟩ = some (.map (some gm)) := h.box.cell 2
theorem Dk.c3 (h : Dk w b vs vw gm d) : w.cell? ⟨b, 3, none⟩ = some (.bool d.power) := h.box.cell 3
theorem Dk.c4 (h : Dk w b vs vw gm d) : w.cell? ⟨b, 4, none⟩ = some (.bool d.lit) := h.box.cell 4
theorem Dk.c5 (h : Dk w b vs vw gm d) : w.cell? ⟨b, 5, none⟩ = some (.int .i64 d.left) := h.box.cell 5
theorem Dk.c6 (h : Dk w b vs vw gm d) : w.cell? ⟨b, 6, none⟩ = some (.string ⟨d.keep.toArray⟩) := h.box.cell 6
theorem Dk.c7 (h : Dk w b vs vw gm d) : w.cell? ⟨b, 7, none⟩ = some (.int .u64 d.acts) := h.box.cell 7
theorem Dk.st_form (h : Dk w b vs vw gm d) : ∃ gs cap, vs = .slice (some ⟨gs, 0, none⟩) d.on.length cap /\ d.on.length <= cap /\ gs < w.heap.size := by
 have h1 := h.ok.some
 rcases h.st.2 with ⟨_, h0⟩ | ⟨g, cap, cur, hv, _, hg, hnc, _⟩
 ·omega
 ·exact ⟨g, cap, hv, hnc, (Array.getElem?_eq_some_iff.1 hg).1⟩
theorem Dk.wt_form (h : Dk w b vs vw gm d) : ∃ A cap, vw = .slice A d.wait.length cap /\ d.wait.length <= cap := by
 rcases h.wt.2 with ⟨h0, h1⟩ | ⟨g, cap, cur, hv, _, hg, hnc, _⟩
 ·exact ⟨none, 0, by rw [h0, h1], by omega⟩
 ·exact ⟨_, cap, hv, hnc⟩
theorem powered_any (h : Dk w b vs vw gm d) : Calls Tryz.prog 79 #[.pointer (some ⟨b, 0, none⟩)] w fun r w' => r = .returned (.int .i64 (okOr d.power 4)) /\ w = w' := by
 have c3 := h.c3
 clear h
 go_enter Tryz.func79, Tryz.ntmps79
 go_wp2_with fail
 refine (unless_any _ _ _).mono ?_
 rintro e w' ⟨rfl, rfl⟩
 go_wp2_with fail
 go_ret
 exact ⟨rfl, rfl⟩
def secB (d : Dm) (a : Int) : Bool := decide (0 <= a) && decide (a < d.on.length)
theorem sector_any (h : Dk w b vs vw gm d) (a : Int) (p : Nat) (hp : w.cell? ⟨p, 0, none⟩ = some (.int .i64 a)) :
  Calls Tryz.prog 154 #[.pointer (some ⟨b, 0, none⟩), .pointer (some ⟨p, 0, none⟩)] w fun r w' => r = .returned (.int .i64 (okOr (secB d a) 2)) /\ ∃ n, w' = w.drewN n := by
 have c0 := h.c0
 obtain ⟨gs, cap, hv, _, _⟩ := h.st_form
 rw [hv] at c0
 have hs : secB d a = (decide (0 <= a) && decide (a < d.on.length)) := rfl
 have HS := hHd hs
 clear h hv hs
 by_cases h0 : 0 <= a
 ·have hd0 : decide (0 <= a) = true := by simpa using h0
  go_enter Tryz.func154, Tryz.ntmps154
  go_wp2
  go_quiet ((go_at_call 130; exact Calls.quiet_of_same ((unless_any _ _ _).mono fun _ _ hh => ⟨hh.1, hh.2.symm⟩)))
  go_wp2
  go_ret
  refine ⟨?_, _, rfl⟩
  rw [HS.out, hd0]
  simp
 ·have hd0 : decide (0 <= a) = false := by simpa using h0
  go_enter Tryz.func154, Tryz.ntmps154
  go_wp2
  go_quiet ((go_at_call 130; exact Calls.quiet_of_same ((unless_any _ _ _).mono fun _ _ hh => ⟨hh.1, hh.2.symm⟩)))
  go_wp2
  go_ret
  refine ⟨?_, _, rfl⟩
  rw [HS.out, hd0]
  simp
theorem bytes_fill (A : Option Addr) (n c p : Nat) (hp : w.cell? ⟨p, 0, none⟩ = some (.slice A n c)) (x : Value) :
  Calls Tryz.prog 169 #[x, .pointer (some ⟨p, 0, none⟩)] w fun r w' => r = .returned (.int .i64 (okOr ((n : Int) == 512) 2)) /\ w = w' := by
 go_enter Tryz.func169, Tryz.ntmps169
 go_wp2_with fail
 refine (unless_any _ _ _).mono ?_
 rintro e w' ⟨rfl, rfl⟩
 go_wp2_with fail
 go_ret
 exact ⟨by simp, rfl⟩
theorem acts_may (a : Int) (p : Nat) (hp : w.cell? ⟨p, 0, none⟩ = some (.int .i64 a)) (x : Value) :
  Calls Tryz.prog 129 #[x, .pointer (some ⟨p, 0, none⟩)] w fun r w' => r = .returned (.int .i64 (okOr (decide (0 <= a)) 2)) /\ w = w' := by
 go_enter Tryz.func129, Tryz.ntmps129
 go_wp2_with fail
 refine (unless_any _ _ _).mono ?_
 rintro e w' ⟨rfl, rfl⟩
 go_wp2_with fail
 go_ret
 exact ⟨rfl, rfl⟩
end
section
variable (w : World)
theorem sectorIs_any (a : Int) : Calls Tryz.prog 118 #[.int .i64 a] w fun r w' => r = .returned (.func (.func 154) #[] #[.pointer (some ⟨w.heap.size, 0, none⟩)]) /\ w' = w.alloc (.cells #[.int .i64 a] 3) := by
 have hmf : ∀ (fn : Fn) (first cap : Array Value) (w : World), (Instr.makeFunc fn first cap).run Tryz.prog w = .ok (.func fn first cap) w := fun _ _ _ _ => rfl
 go_enter Tryz.func118, Tryz.ntmps118
 go_wp2
 go_ret
 exact ⟨rfl, rfl⟩
theorem bytesFill_any (A : Option Addr) (n c : Nat) : Calls Tryz.prog 151 #[.slice A n c] w fun r w' => r = .returned (.func (.func 169) #[] #[.pointer (some ⟨w.heap.size, 0, none⟩)]) /\ w' = w.alloc (.cells #[.slice A n c] 50) := by
 have hmf : ∀ (fn : Fn) (first cap : Array Value) (w : World), (Instr.makeFunc fn first cap).run Tryz.prog w = .ok (.func fn first cap) w := fun _ _ _ _ => rfl
 go_enter Tryz.func151, Tryz.ntmps151
 go_wp2
 go_ret
 exact ⟨rfl, rfl⟩
theorem actsMayBe_any (a : Int) : Calls Tryz.prog 78 #[.int .i64 a] w fun r w' => r = .returned (.func (.func 129) #[] #[.pointer (some ⟨w.heap.size, 0, none⟩)]) /\ w' = w.alloc (.cells #[.int .i64 a] 3) := by
 have hmf : ∀ (fn : Fn) (first cap : Array Value) (w : World), (Instr.makeFunc fn first cap).run Tryz.prog w = .ok (.func fn first cap) w := fun _ _ _ _ => rfl
 go_enter Tryz.func78, Tryz.ntmps78
 go_wp2
 go_ret
 exact ⟨rfl, rfl⟩
end
theorem bit_any (l : List UInt8) (i : Nat) (hi : i < 1073741824) (_hl : l.length <= maxLen) (w : World) :
  Calls Tryz.prog 132 #[.string ⟨l.toArray⟩, .int .i64 i] w fun r w' => r = .returned (.bool (bitOf l i)) /\ w = w' := by
 unfold maxLen at _hl
 obtain ⟨q, hqe⟩ : ∃ q, q = i / 8 := ⟨_, rfl⟩
 obtain ⟨r, hre⟩ : ∃ r, r = i % 8 := ⟨_, rfl⟩
 have hb : bitOf l i = (decide (q < l.length) && ((l.getD q 0).toNat / 2 ^ r % 2 == 1)) := by rw [bitOf, <- hqe, <- hre]
 have hq : ((i : Int)).tdiv 8 = (q : Int) := by rw [hqe]; exact (Int.ofNat_tdiv i 8).symm
 have hr : ((i : Int)).tmod 8 = (r : Int) := by rw [hre]; exact (Int.ofNat_tmod i 8).symm
 have hr8 : r < 8 := by omega
 have hq8 : q < 1073741824 := by omega
 have HB := hHd hb
 clear hb hqe hre
 by_cases hlt : q < l.length
 ·have hget : l.getD q 0 = l[q] := by simp [hlt]
  have HG := hHd hget
  clear hget
  go_enter Tryz.func132, Tryz.ntmps132
  go_wp2
  go_ret
  refine ⟨?_, rfl⟩
  rw [HB.out, HG.out]
  rw [decide_eq_true hlt]
  have hx : l[q].toNat < 256 := l[q].toNat_lt
  have hand : bits .and .u8 ((l[q].toNat : Int) / 2 ^ r) 1 = ((l[q].toNat / 2 ^ r % 2 : Nat) : Int) := by
   have := u8_and_nat (l[q].toNat / 2 ^ r) 1 (Nat.lt_of_le_of_lt (Nat.div_le_self _ _) hx) (by decide)
   rw [Nat.and_one_is_mod] at this
   rw [<- this]
   simp
  have hbr : ∀ x : Nat, (((x : Nat) : Int) == 1) = (x == 1) := fun x => by
   rw [Bool.eq_iff_iff]; simp; omega
  show Ending.returned (.bool (bits .and .u8 ((l[q].toNat : Int) / 2 ^ r) 1 == 1)) = _
  rw [hand, hbr]
  simp
 ·have hd : decide (q < l.length) = false := by simpa using hlt
  go_enter Tryz.func132, Tryz.ntmps132
  go_wp2
  go_ret
  refine ⟨?_, rfl⟩
  rw [HB.out]
  simp [hd]
theorem lose1_any (l : List UInt8) (i : Nat) (hi : i < 1073741824) (hl : l.length <= maxLen) (w : World) (p : Nat) (hp : w.cell? ⟨p, 0, none⟩ = some (.string ⟨l.toArray⟩)) :
  Calls Tryz.prog 131 #[.int .i64 i, .pointer (some ⟨p, 0, none⟩)] w fun r w' => r = .returned (.bool (bitOf l i)) /\ w = w' := by
 go_enter Tryz.func131, Tryz.ntmps131
 go_wp2_with fail
 refine (bit_any l i hi hl _).mono ?_
 rintro e w' ⟨rfl, rfl⟩
 go_wp2_with fail
 go_ret
 exact ⟨rfl, rfl⟩
theorem flush1_any (i : Nat) (w : World) :
  Calls Tryz.prog 100 #[.int .i64 i] w fun r w' => r = .returned (.bool true) /\ w = w' := by
 go_enter Tryz.func100, Tryz.ntmps100
 go_wp2_with fail
 go_ret
 exact ⟨rfl, rfl⟩
theorem zero_row (t : TypeId) (n : Nat) (h : (match Tryz.prog.info? t with | some i => (match i.zero with | some (.agg cs) => cs.size == n && i.size == n && cs.all (·.oneCell') | _ => false) | none => false) = true) :
  ∃ zc : Array Value, (∀ w, (zeroValue t).run Tryz.prog w = .ok (.agg zc) w) /\ zc.size = n /\ (Tryz.prog.info? t).map (·.size) = some n /\ zc.all (·.oneCell') = true := by
 cases hi : Tryz.prog.info? t with
 |none => rw [hi] at h; cases h
 |some i =>
  rw [hi] at h
  dsimp only at h
  split at h
  ·next cs hz =>
   simp only [Bool.and_eq_true, beq_iff_eq] at h
   exact ⟨cs, fun w => by simp [zeroValue, typeInfo, hi, hz], h.1.1, by simp [h.1.2], h.2⟩
  ·cases h
theorem zeroWr : ∃ zc : Array Value, (∀ w, (zeroValue 158).run Tryz.prog w = .ok (.agg zc) w) /\ zc.size = 513 /\ (Tryz.prog.info? 158).map (·.size) = some 513 /\ zc.all (·.oneCell') = true := zero_row _ _ (by kernel_rfl)
theorem zeroSec : ∃ zc : Array Value, (∀ w, (zeroValue 156).run Tryz.prog w = .ok (.agg zc) w) /\ zc.size = 512 /\ (Tryz.prog.info? 156).map (·.size) = some 512 /\ zc.all (·.oneCell') = true := zero_row _ _ (by kernel_rfl)
def wrCells (x : Nat × List UInt8) : List Value := bcs x.2 ++ [.int .i64 x.1]
theorem wrCells_length (x : Nat × List UInt8) (h : x.2.length = 512) : (wrCells x).length = 513 := by simp [wrCells, bcs_length, h]
theorem wrCells_one (x : Nat × List UInt8) : ∀ v ∈ wrCells x, v.oneCell' = true := fun v hv => by
 rcases List.mem_append.1 hv with hv | hv
 ·exact bcs_one _ v hv
 ·obtain rfl : v = .int .i64 x.1 := by simpa using hv
  rfl
theorem dwpList_store_box {P : Program} {ops : Array Oper} {rest : List Oper} {op : Oper} {a : Act} {w : World} {Q : Exit -> Act -> World -> Prop} (hgd : op.guard = none) (ty : TypeId) (x y : Operand) (ho : op.op = .store ty x y)
  (g : Nat) (cs : List Value) (hx : a.eval x = .pointer (some ⟨g, 0, none⟩)) (hy : a.eval y = .agg cs.toArray) {t : TypeId} {old : Array Value} (hb : Box w g t old) (hs : old.size = cs.length)
  (hi : (P.info? ty).map (·.size) = some cs.length) (h1 : ∀ v ∈ cs, v.oneCell' = true)
  (h : ∀ W, Box W g t cs.toArray -> Kp (fun k => k = g) w W -> wpList P ops Q rest (a.put op.dst undef) W) : wpList P ops Q (op :: rest) a w := by
 have hb' : Box w g t old.toList.toArray := hb
 refine wpList_store_mid hgd ty x y ho g 0 cs.toArray hx hy ?_ (by simpa using hi) (all_oneCell_toArray h1) ?_
 ·have := hb'.there
  simp only [List.size_toArray, Array.length_toList] at this ⊢
  rw [<- hs]
  exact this
 ·refine h _ ?_ (Kp.setCells _ 0 w (Kp.refl _ w) (.inr rfl))
  exact hb'.write (by simpa using hs.symm)
theorem waitCells_get (l : List (Nat × List UInt8)) (h : ∀ x ∈ l, x.2.length = 512) (k : Nat) (x : Nat × List UInt8) (hk : l[k]? = some x) (j : Nat) (v : Value) (hj : (wrCells x)[j]? = some v) : (waitCells l)[k * 513 + j]? = some v := by
 induction l generalizing k with
 |nil => simp at hk
 |cons y r ih =>
  have hy := h y (by simp)
  have e : waitCells (y :: r) = wrCells y ++ waitCells r := rfl
  have hlen : (wrCells y).length = 513 := by simp [wrCells, bcs_length, hy]
  rw [e]
  cases k with
  |zero =>
   cases hk
   rw [Nat.zero_mul, Nat.zero_add, List.getElem?_append_left (List.getElem?_eq_some_iff.1 hj).1]
   exact hj
  |succ k =>
   rw [List.getElem?_append_right (by omega), show (k + 1) * 513 + j - (wrCells y).length = k * 513 + j by omega]
   exact ih (fun z hz => h z (by simp [hz])) k (by simpa using hk)
theorem onCells_get (l : List (List UInt8)) (h : ∀ x ∈ l, x.length = 512) (k : Nat) (x : List UInt8) (hk : l[k]? = some x) (j : Nat) (v : Value) (hj : (bcs x)[j]? = some v) : (onCells l)[k * 512 + j]? = some v := by
 induction l generalizing k with
 |nil => simp at hk
 |cons y r ih =>
  have hy := h y (by simp)
  have e : onCells (y :: r) = bcs y ++ onCells r := rfl
  have hlen : (bcs y).length = 512 := by simp [bcs_length, hy]
  rw [e]
  cases k with
  |zero =>
   cases hk
   rw [Nat.zero_mul, Nat.zero_add, List.getElem?_append_left (List.getElem?_eq_some_iff.1 hj).1]
   exact hj
  |succ k =>
   rw [List.getElem?_append_right (by omega), show (k + 1) * 512 + j - (bcs y).length = k * 512 + j by omega]
   exact ih (fun z hz => h z (by simp [hz])) k (by simpa using hk)
theorem onCells_set (l : List (List UInt8)) (h : ∀ x ∈ l, x.length = 512) (k : Nat) (hk : k < l.length) (s : List UInt8) (_hs : s.length = 512) : onCells (l.set k s) = (onCells l).take (k * 512) ++ bcs s ++ (onCells l).drop (k * 512 + 512) := by
 induction l generalizing k with
 |nil => simp at hk
 |cons y r ih =>
  have hy := h y (by simp)
  have hlen : (bcs y).length = 512 := by simp [bcs_length, hy]
  have e : onCells (y :: r) = bcs y ++ onCells r := rfl
  cases k with
  |zero =>
   rw [e]
   show bcs s ++ onCells r = _
   rw [Nat.zero_mul, List.take_zero, List.nil_append, List.drop_append, List.drop_eq_nil_of_le (by omega), show 0 + 512 - (bcs y).length = 0 by omega, List.drop_zero, List.nil_append]
  |succ k =>
   rw [e]
   show bcs y ++ onCells (r.set k s) = _
   rw [ih (fun z hz => h z (by simp [hz])) k (by simpa using hk), List.take_append, List.take_of_length_le (show (bcs y).length <= (k + 1) * 512 by omega), List.drop_append, List.drop_eq_nil_of_le (show (bcs y).length <= (k + 1) * 512 + 512 by omega), show (k + 1) * 512 - (bcs y).length = k * 512 by omega, show (k + 1) * 512 + 512 - (bcs y).length = k * 512 + 512 by omega]
   simp [List.append_assoc]
theorem own_range {w : World} {base : Nat} {e : TypeId} {size n : Nat} {g cap : Nat} {xs cs : List Value} (h : w.ownsRow base e size (.slice (some ⟨g, 0, none⟩) n cap) n xs) (o : Nat) (hc : ∀ j v, cs[j]? = some v -> xs[o + j]? = some v) : w.rangeAt g o cs := fun j v hj => by
 have := h.cells (g := g) rfl (o + j) v (hc j v hj)
 rwa [Addr.add_mid, Nat.zero_add] at this
theorem own_there {w : World} {base : Nat} {e : TypeId} {size n : Nat} {g cap : Nat} {xs : List Value} (h : w.ownsRow base e size (.slice (some ⟨g, 0, none⟩) n cap) n xs) (o m : Nat) (hm : o + m <= n * size) : w.there g o m := fun j hj => by
 rcases h.2 with ⟨h0, _⟩ | ⟨g', cap', cur, hv, _, hg, hnc, _, hsz, ht⟩
 ·cases h0
 ·injection hv with h1 h2 h3
  injection h1 with h1
  injection h1 with h1
  subst h1; subst h3
  have hb : Box w g e cur := hg
  rw [hb.cell, hb.free]
  have := Nat.mul_le_mul_right size hnc
  exact ⟨by simp; omega, rfl⟩
theorem take_mid {α : Type} (L vs : List α) (o N : Nat) (h : o + vs.length <= N) (hN : N <= L.length) : (L.take o ++ vs ++ L.drop (o + vs.length)).take N = (L.take N).take o ++ vs ++ (L.take N).drop (o + vs.length) := by
 have hl : (L.take o ++ vs).length = o + vs.length := by simp; omega
 rw [List.take_append, List.take_of_length_le (show (L.take o ++ vs).length <= N by omega), hl, List.drop_take, List.take_take, Nat.min_eq_left (show o <= N by omega)]
theorem own_set {w : World} {base : Nat} {e : TypeId} {size n : Nat} {g cap : Nat} {xs : List Value} (h : w.ownsRow base e size (.slice (some ⟨g, 0, none⟩) n cap) n xs) (o : Nat) (vs : List Value) (hm : o + vs.length <= n * size) :
  (w.setCells g o vs).ownsRow base e size (.slice (some ⟨g, 0, none⟩) n cap) n (xs.take o ++ vs ++ xs.drop (o + vs.length)) := by
 have hx := h.1
 refine ⟨by simp; omega, .inr ?_⟩
 rcases h.2 with ⟨h0, _⟩ | ⟨g', cap', cur, hv, hb, hg, hnc, hc, hsz, ht⟩
 ·cases h0
 ·injection hv with h1 h2 h3
  injection h1 with h1
  injection h1 with h1
  subst h1; subst h3
  have hbox : Box w g e cur.toList.toArray := hg
  have := Nat.mul_le_mul_right size hnc
  have hw := Box.writes vs o w cur.toList hbox (by simp; omega)
  refine ⟨g, cap, _, rfl, hb, hw, hnc, hc, by simp; omega, ?_⟩
  rw [<- ht]
  exact take_mid cur.toList vs o (n * size) hm (by simp; omega)
end Go.Proofs.YtepaeliamhjgiaaGreatDoor
