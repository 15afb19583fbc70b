/- The law of pages, part 42 of 55: DkOpen PgOpenA PgLwA PgLwB PgLwC. -/
import Derived.Test.YtepaeliamhjgiaaGreatDoorMu1
import Derived.Test.YtepaeliamhjgiaaGreatDoorMu7
import Derived.ProofKit
import Derived.Deep.Slices
import Derived.Deep.Fields
import Derived.ChangeSame
import Derived.ChangeOld
import Derived.Test.YtepaeliamhjgiaaGreatDoorMu41
import Derived.Test.YtepaeliamhjgiaaGreatDoorMu38
import Derived.Test.YtepaeliamhjgiaaGreatDoorMu37
import Derived.Test.YtepaeliamhjgiaaGreatDoorMu27
set_option maxHeartbeats 16000000
set_option maxRecDepth 100000
namespace Go.Proofs.YtepaeliamhjgiaaGreatDoor
open Go.ChangeShapes Go.WideShapes Go.ChangeAt Go.RowKit
open Go.Deep (open_slice choose_lt)
theorem cells_u8 : Tryz.prog.cellsOf 5 = 1 := by kernel_rfl
theorem cells_int : Tryz.prog.cellsOf 3 = 1 := by kernel_rfl
theorem dcells_str : Tryz.prog.cellsOf 9 = 1 := by kernel_rfl
theorem u8_lo : IntKind.u8.min = 0 := by decide
theorem u8_hi : IntKind.u8.max = 255 := by decide
theorem i64_lo : IntKind.i64.min = -9223372036854775808 := by decide
theorem i64_hi : IntKind.i64.max = 9223372036854775807 := by decide
theorem spot_none {w : World} {a : Addr} {v : Value} (h : w.cell? a = some v) : a.spot = none := by
 unfold World.cell? at h
 split at h
 ·split at h
  ·cases h
  ·next hs => simpa using hs
 ·cases h
theorem add_zero' (a : Addr) : a.add 0 = a := by unfold Addr.add; simp
theorem add_flat (b o n : Nat) : (⟨b, o, none⟩ : Addr).add n = ⟨b, o + n, none⟩ := by unfold Addr.add; split <;> simp_all
section
variable {H : Type} {enc : TypeId × Value -> H} {W : World}
instance : Inhabited Ac := ⟨⟨0, 0, [], 0, false⟩⟩
end
theorem wcells_item : Tryz.prog.cellsOf 30 = 4 := by kernel_rfl
section
variable {H : Type} {enc : TypeId × Value -> H} {W : World}
instance : Inhabited Aw := ⟨⟨0, 0, 0, []⟩⟩
theorem wopen_item {fuel : Nat} {cs : List Value} {x : DataW H × List MemPlace} (h : DataW.trod enc Tryz.prog W 0 (fun _ => true) true fuel 30 cs = some x) :
  ∃ y : Aw, y.Ok /\ cs = y.cells.toList := by
 obtain ⟨ys, n, _, _, hl, hlen, hf⟩ := DataW.trod_struct Tryz.underlying30 h
 rw [wcells_item] at hl
 match cs, hl with
 |[v0, v1, v2, v3], _ =>
  match ys, hlen with
  |[y0, y1, y2, y3], _ =>
   have f0 := hf 0 _ rfl
   have f1 := hf 1 _ rfl
   have f2 := hf 2 _ rfl
   have f3 := hf 3 _ rfl
   simp [cells_u8] at f0
   simp [cells_int] at f1
   simp [cells_u8] at f2
   simp [dcells_str] at f3
   obtain ⟨d, e0, _, w0⟩ := DataW.trod_int Tryz.underlying5 f0
   obtain ⟨n, e1, _, w1⟩ := DataW.trod_int Tryz.underlying3 f1
   obtain ⟨c, e2, _, w2⟩ := DataW.trod_int Tryz.underlying5 f2
   obtain ⟨s, e3, _, w3⟩ := DataW.trod_string Tryz.underlying9 f3
   cases e0; cases e1; cases e2; cases e3
   simp only [Lit.wf, Bool.and_eq_true, decide_eq_true_eq, u8_lo, u8_hi, i64_lo, i64_hi] at w0 w1 w2
   have hs : (⟨s.data.toList.toArray⟩ : ByteArray) = s := by cases s; simp
   have hc : ((UInt8.ofNat c.toNat).toNat : Int) = c := by simp; omega
   refine ⟨⟨d, n, UInt8.ofNat c.toNat, s.data.toList⟩, ⟨by simp only; omega, by simp only; omega, by simp only; omega, by simp only; omega, by simpa using w3⟩, ?_⟩
   simp only [Aw.cells, hs, hc]
theorem wopen_items {a : Option Addr} {len cap : Nat} {d : DataW H} {p : List MemPlace} (h : DataW.Trod enc Tryz.prog W 0 (fun _ => true) true 22 (.slice a len cap) d p) :
  ∃ l : List Aw, l.length = len /\ len <= cap /\ cap <= maxLen /\ Aws W W.heap.size a l := by
 obtain ⟨fuel, hf⟩ := h
 rcases open_slice Tryz.underlying22 hf with ⟨hcs, _⟩ | ⟨ad, l, c, m, n, D, Pl, hcs, _, hl, hm, hmm, _, hi⟩
 ·simp [Value.cells] at hcs
  obtain ⟨rfl, rfl, rfl⟩ := hcs
  exact ⟨[], rfl, Nat.le_refl _, by simp [maxLen], by simp, .inl rfl⟩
 ·simp [Value.cells] at hcs
  obtain ⟨rfl, rfl, rfl⟩ := hcs
  have hlm : len <= m := by rw [hmm]; simp; omega
  rw [wcells_item] at hi
  obtain ⟨V, hV⟩ := choose_lt (α := Aw) (n := len) (p := fun i y => y.Ok /\ ∀ j v, y.cells[j]? = some v -> W.cell? ((ad.add (i * 4)).add j) = some v) (fun i hlt => by
   obtain ⟨cs, hc, ht⟩ := hi i (by omega)
   obtain ⟨_, hcl, hat⟩ := World.cells?_some hc
   obtain ⟨y, hy, hyc⟩ := wopen_item ht
   refine ⟨y, hy, fun j v hv => ?_⟩
   have hj : j < 4 := (Array.getElem?_eq_some_iff.1 hv).1
   rw [hat j hj, hyc]
   simpa using hv)
  refine ⟨(List.range len).map V, by simp, hl, hm, fun x hx => ?_, ?_⟩
  ·obtain ⟨i, hir, rfl⟩ := List.mem_map.1 hx
   exact (hV i (List.mem_range.1 hir)).1
  ·rcases Nat.eq_zero_or_pos len with h0 | h0
   ·left; subst h0; rfl
   ·right
    have h00 := (hV 0 h0).2 0 _ rfl
    rw [Nat.zero_mul, add_zero', add_zero'] at h00
    obtain ⟨b, o, sp⟩ := ad
    have hsp := spot_none h00
    simp only at hsp
    subst hsp
    refine ⟨b, o, rfl, World.block_lt_of_cell? _ _ h00, fun i x hx j v hv => ?_⟩
    have hil : i < len := by
     have := (List.getElem?_eq_some_iff.1 hx).1
     simpa using this
    simp [hil] at hx
    subst hx
    have := (hV i hil).2 j v hv
    rwa [add_flat, add_flat] at this
end
end Go.Proofs.YtepaeliamhjgiaaGreatDoor
namespace Go.Proofs.YtepaeliamhjgiaaGreatDoor
open Go.RowKit Go.Maps Go.Shelf
theorem pbit_page (f : Nat → Bool) (n : Nat) (h : Bt.Wf f n) : Bt.bitL (Bt.pageL f) = f := by
  funext i
  unfold Bt.bitL
  rw [List.getD_eq_getElem?_getD]
  rcases Nat.lt_or_ge (i / 8) 512 with hi | hi
  · rw [Bt.pageL_get _ _ hi, Option.getD_some, UInt8.toNat_ofNat_of_lt' (Bt.byN_lt _ _), Bt.byN_bit]
    have h1 : i % 8 < 8 := Nat.mod_lt _ (by decide)
    have h2 : 8 * (i / 8) + i % 8 = i := by omega
    simp [h1, h2]
  · rw [List.getElem?_eq_none (by rw [Bt.pageL_length]; exact hi), h.off i (by have := h.few; omega)]
    simp
theorem parse_le : ∀ (ss : List Sh) (t : List UInt8), (parse t ss).length ≤ ss.length
  | [], t => Nat.le_refl _
  | s :: r, t => by
    unfold parse
    split
    · have := parse_le r []
      simp only [List.length_cons]
      omega
    · have := parse_le r (t ++ s.t)
      simp only [List.length_cons]
      omega
theorem countS_a {x y : Option Hd} {h : Hd} {a : Nat} (e : countS x y = some (h, a)) : a ≤ 1 := by
  unfold countS at e
  split at e
  · split at e <;> (injection e with e; injection e with _ e; omega)
  · injection e with e; injection e with _ e; omega
  · injection e with e; injection e with _ e; omega
  · cases e
structure Cm (C : Nat → List UInt8) (u : Nat → Bool) (n : Nat) : Prop where
  p0 : C 0 = Bt.pageL u
  wf : Bt.Wf u n
  u0 : u 0 = true
section
variable {d : Dm} {s : Sm} {L n N : Nat} {hn : List UInt8} {C : Nat → List UInt8}
theorem St.lok (h : St d s L n hn C N) (hN : N < 18446744073709551616) : s.l.ok := by
  obtain ⟨ss, bs, h1, h2, h3, h4⟩ := h.log
  refine ⟨h1.o.hok, countS_a h1.o.heads, ?_, ?_⟩
  · have := h1.o.nextN
    omega
  · have := h1.few
    have := h1.o.hok.hi
    omega
theorem St.waits (h : St d s L n hn C N) : d.wait.length + 600000 < 1073741824 := by
  rw [h.up.wait]
  decide
theorem need_text {m : Bm} (hm : m.Ok n) (hk : m.keys n ≠ []) : need (m.text n).length = (514 * (m.keys n).length + 496) / 497 := by
  have h1 : (m.text n).length = 514 * (m.keys n).length := by
    unfold Bm.text
    rw [pgTx_length fun j hj => (keys_long hm hj).2]
  have h2 : 0 < (m.keys n).length := List.length_pos_iff.2 hk
  unfold need
  rw [h1]
  omega
end
theorem open_law {F : Nat → Prop} {w : World} {b L n N : Nat} {d : Dm} {note : List UInt8} {C : Nat → List UInt8} {u : Nat → Bool} (hF : ∀ k, w.heap.size ≤ k → F k) (hFT : ¬ F 1) (hD : Dsk F w b d) (ht : Tbl w) (hu : Up d)
    (hr : Rc d.on L n (hnote n note) C N) (hc : Cm C u n) (hN : N + 2000 < 18446744073709551616) (p1 : 64 ≤ n) (hnl : note.length ≤ 40) :
    Calls Tryz.prog 11 #[.pointer (some ⟨b, 0, none⟩)] w fun e W' => Kp F w W' ∧
      ((∃ gs gl g1 g2 s d', e = .returned (.tuple #[.pointer (some ⟨gs, 0, none⟩), .int .i64 0]) ∧ Sto F W' gs gl b g1 g2 s d' ∧ St d' s L n (hnote n note) C (N + 1) ∧ s.note = note ∧ s.used = u ∧ s.cused = u ∧ s.chg = bnone ∧ (d.lit = false → d'.lit = false)) ∨
       (∃ d', e = .returned (.tuple #[.pointer none, .int .i64 4]) ∧ d.lit = true ∧ Dsk F W' b d' ∧ Off d' ∧ Rc d'.on L n (hnote n note) C (N + 1))) := by
  obtain ⟨l, bs, ho, hbs, hL, hh, hwo, hnow, hop⟩ := hr.open hu (by omega)
  obtain ⟨l', o1, o2, o3, o4, o5⟩ := open_out (u := textsF (onV d.on) l.h.n l.h.f) hwo.cut (by omega) hu
  obtain ⟨vs, vw, gm, hdk, _⟩ := id hD
  have hlo := hwo.hok.lo
  have hhi := hwo.hok.hi
  have hheads : d.heads = some (l.h, l.a) := by unfold Dm.heads; rw [Up.now hu.wait]; exact hwo.heads
  have hin := hr.in_
  have hlen1 : (onV d.on (2 + L + 0)).length = 512 := by
    unfold onV
    have hlt : 2 + L + 0 < d.on.length := by omega
    rw [List.getD_eq_getElem?_getD, List.getElem?_eq_getElem hlt]
    exact hdk.ok.each _ (List.getElem_mem hlt)
  have hopenl : (some (l, bs.map fun m => m.text n), (0 : Int)) = (some (⟨l.h, l.a, nextF d.nowAt l.h.n l.h.f, 0, false⟩, textsF d.nowAt l.h.n l.h.f), 0) := by
    rw [← ho]
    simp [Dm.openS, hu.power, hheads, hwo.len]
  have hl0 : l = ⟨l.h, l.a, nextF d.nowAt l.h.n l.h.f, 0, false⟩ ∧ (bs.map fun m => m.text n) = textsF d.nowAt l.h.n l.h.f := by
    injection hopenl with hx _
    injection hx with hx
    injection hx with h1 h2
    exact ⟨h1, h2⟩
  have hleft : l.left = 0 := by
    have := congrArg Lm.left hl0.1
    exact this
  have hg : Og d l n L note (onV d.on (2 + L + 0)) (Bt.pageL u) bs := by
    refine ⟨hL, hh, p1, hc.wf.few, hnl, by omega, hin, hbs, ?_, ?_, hlen1, ?_, ?_, ?_, ⟨hwo.hok, countS_a hwo.heads, by have := hwo.nextN; omega, by omega⟩, by rw [hu.wait]; decide⟩
    · have h1 := congrArg List.length hl0.2
      rw [List.length_map] at h1
      have h2 := parse_le (runF (sheetF d.nowAt l.h.n) (l.h.n + 1) l.h.f) []
      have h3 := runF_log d.nowAt l.h.n l.h.f (by omega)
      unfold textsF at h1
      omega
    · unfold Dm.readS
      have hs : secB d ((2 + L + 0 : Nat) : Int) = true := by
        simp [secB]
        omega
      rw [hu.power, hs]
      show (d.nowAt ((2 + L + 0 : Nat) : Int).toNat, (0 : Int)) = _
      rw [Up.now hu.wait]
      rfl
    · rw [hnow 0 (by omega), hc.p0]
    · intro i hi
      rw [pbit_page u n hc.wf]
      exact hc.wf.off i hi
    · rw [pbit_page u n hc.wf]
      exact hc.u0
  have hbit : Bt.bitL (Bt.pageL u) = u := pbit_page u n hc.wf
  refine (popen_any hF hFT hD ht (fun h a e => by
    rw [hheads] at e
    injection e with e
    injection e with e _
    have h1 := hwo.first
    have h2 := hwo.nextN
    rw [← e]
    omega) ho hg).mono ?_
  rintro e W' ⟨hk, hres⟩
  rw [hbit] at hres
  refine ⟨hk, ?_⟩
  rcases hop note u with ⟨q1, ⟨l1, q2, q3⟩, q4, q5⟩ | ⟨q1, q2, q3, q4, q5, q6⟩
  · rcases hres with ⟨_, gs, gl, g1, g2, l2, r1, r2, r3⟩ | ⟨r1, _⟩
    · rw [q2] at r1
      injection r1 with r1
      injection r1 with r1
      subst r1
      exact .inl ⟨gs, gl, g1, g2, _, _, r2, r3, q3, rfl, rfl, rfl, rfl, q4⟩
    · exact absurd q1 r1
  · rcases hres with ⟨r1, _⟩ | ⟨r1, r2, r3⟩
    · rw [r1] at q1
      exact absurd q1 (by decide)
    · rw [q1] at r2
      exact .inr ⟨_, r2, q2, r3, q5, q4⟩
theorem commit_law {F : Nat → Prop} {w : World} {gs gl b g1 g2 L n N : Nat} {s : Sm} {d : Dm} {hn : List UInt8} {C : Nat → List UInt8} (h : Sto F w gs gl b g1 g2 s d) (hst : St d s L n hn C N) (hF : ∀ k, w.heap.size ≤ k → F k) (hFT : ¬ F 1) (tb : Tbl w) (hN : N + 2000 < 18446744073709551616) :
    Calls Tryz.prog 24 #[.pointer (some ⟨gs, 0, none⟩)] w fun e w' => Kp F w w' ∧
      ((s.chg.keys n = [] ∧ e = .returned (.int .i64 0) ∧ ∃ g1' g2', Sto F w' gs gl b g1' g2' s d) ∨
       (s.chg.keys n ≠ [] ∧ need (s.chg.text n).length ≤ L ∧ e = .returned (.int .i64 0) ∧ ∃ g1' g2' s' d', Sto F w' gs gl b g1' g2' s' d' ∧ St d' s' L n hn (nowC C s.chg) (N + 600) ∧ s'.note = s.note ∧ s'.used = s.cused ∧ s'.cused = s.cused ∧ s'.chg = bnone ∧ (d.lit = false → d'.lit = false)) ∨
       (s.chg.keys n ≠ [] ∧ L < need (s.chg.text n).length ∧ e = .returned (.int .i64 6) ∧ ∃ g1' g2', Sto F w' gs gl b g1' g2' s.abortS d) ∨
       (s.chg.keys n ≠ [] ∧ e = .returned (.int .i64 4) ∧ d.lit = true ∧ ∃ d', Dsk F w' b d' ∧ Off d' ∧ (Rc d'.on L n hn C (N + 600) ∨ Rc d'.on L n hn (nowC C s.chg) (N + 600)))) := by
  have lok := hst.lok (by omega)
  have hs := hst.hs
  have hwt := hst.waits
  refine (pcommit_any h hF hFT tb lok (by omega) (fun hk h5 => ?_)).mono ?_
  · rw [hs] at h5 ⊢
    rcases hst.com1 (by omega) with ⟨e0, _⟩ | ⟨e0, _⟩ | ⟨e0, _⟩ | ⟨e0, _⟩
    · rw [h5] at e0; exact absurd e0 (by decide)
    · rw [e0] at h5; exact absurd h5 (by show ¬ ((6 : Int) = 5); decide)
    · refine ⟨e0, fun ht => ?_⟩
      rcases hst.trim (by omega) with ⟨_, t1, _⟩ | ⟨t0, _⟩
      · have := t1.waits
        exact ⟨t1.lok (by omega), by omega⟩
      · rw [ht] at t0; exact absurd t0 (by decide)
    · rw [h5] at e0; exact absurd e0 (by decide)
  · rintro e w' ⟨rfl, ⟨g1', g2', hs'⟩, hk⟩
    refine ⟨hk, ?_⟩
    by_cases hk0 : s.chg.keys n = []
    · left
      have e : s.commitS d = (s, d, 0) := by
        unfold Sm.commitS
        rw [if_neg (by rw [hst.alive, hst.up.power]; decide), hs, if_pos hk0]
      rw [e] at hs' ⊢
      exact ⟨hk0, rfl, g1', g2', hs'⟩
    · right
      rcases hst.commit (by omega) hk0 with ⟨c0, c1, c2, ⟨l1, lt, c3⟩, c4⟩ | ⟨c0, c1⟩ | ⟨c0, c1, c2, c3, c4, c5⟩
      · left
        refine ⟨hk0, c1, by rw [c0], g1', g2', (s.commitS d).1, (s.commitS d).2.1, hs', c2, ?_, ?_, ?_, ?_, c4⟩
        · rw [c3]
        · rw [c3]
        · rw [c3]
        · rw [c3]
      · right; left
        rw [c0] at hs' ⊢
        exact ⟨hk0, c1, rfl, g1', g2', hs'⟩
      · right; right
        exact ⟨hk0, by rw [c0], c2, _, hs'.dk.mono fun k e => e.1, c3, c5⟩
def nB : List UInt8 := [110, 111, 116, 101]
def hnB : List UInt8 := hnote 128 nB
structure Rel (R : Rs) (s : Sm) (C : Nat -> List UInt8) (n : Nat) : Prop where
 len : R.pg.length = n
 pg : ∀ i, i < n -> R.pg.getD i [] = C i
 chg : R.chg = s.chg
 now0 : R.at_ 0 = Bt.pageL s.cused
 cwf : Bt.Wf s.cused n
 c0 : s.cused 0 = true
 cm : Cm C s.used n
theorem Rel.at {R : Rs} {s : Sm} {C : Nat -> List UInt8} {n i : Nat} (h : Rel R s C n) (hi : i < n) : R.at_ i = nowC C s.chg i := by
 unfold Rs.at_ nowC
 rw [h.chg, h.pg i hi]
theorem Rel.bit {R : Rs} {s : Sm} {C : Nat -> List UInt8} {n : Nat} (h : Rel R s C n) (i : Nat) : Bt.bitL (R.at_ 0) i = s.cused i := by
 rw [h.now0, pbit_page _ n h.cwf]
def Thr (F : Nat -> Prop) (p q : Nat) : Nat -> Prop := fun k => F k /\ (k < p \/ q <= k)
theorem Thr.sub {F : Nat -> Prop} {p q : Nat} : ∀ k, Thr F p q k -> F k := fun _ e => e.1
theorem Thr.out {F : Nat -> Prop} {p q k : Nat} (h1 : p <= k) (h2 : k < q) : ¬ Thr F p q k := fun e => by
 have := e.2
 omega
theorem Dsk.shrink {F F' : Nat -> Prop} {w w' : World} {b : Nat} {d : Dm} (h : Dsk F w b d) (hk : Kp (fun _ => False) w w') (hF : ∀ k, k < w.heap.size -> F k -> F' k) : Dsk F' w' b d := by
 obtain ⟨F1, hd1, hf1⟩ := h.fit
 exact (hd1.still hk).mono fun k e => hF k (hf1 k e).2 (hf1 k e).1
def xcs (b gs a c g L : Nat) (R : Rs) : List Value := [.pointer (some ⟨b, 0, none⟩), .pointer (some ⟨gs, 0, none⟩), .slice (some ⟨a, 0, none⟩) R.pg.length c, .map (some g), .int .i64 (L : Int)]
structure Mx (B : Nat) (F : Nat -> Prop) (w : World) (gx gs b a c g L : Nat) (R : Rs) : Prop where
 x : Box w gx 41 (xcs b gs a c g L R).toArray
 rv : Rv w a c g R
 fx : ¬ F gx
 fa : ¬ F a
 fg : ¬ F g
 new : ∀ k, w.heap.size <= k -> F k
 low : ∀ k, F k -> B <= k
section
variable {B : Nat} {F : Nat -> Prop} {w w' : World} {gx gs b a c g L : Nat} {R : Rs}
theorem Mx.kp (h : Mx B F w gx gs b a c g L R) (hk : Kp F w w') : Mx B F w' gx gs b a c g L R :=
 ⟨h.x.kp hk h.fx, h.rv.kp hk h.fa h.fg, h.fx, h.fa, h.fg, fun k e => h.new k (Nat.le_trans hk.size e), h.low⟩
theorem Mx.still (h : Mx B F w gx gs b a c g L R) (hk : Kp (fun _ => False) w w') : Mx B F w' gx gs b a c g L R := h.kp hk.of_false
theorem Mx.thr (h : Mx B F w gx gs b a c g L R) (hk : Kp (fun _ => False) w w') : Mx B (Thr F w.heap.size w'.heap.size) w' gx gs b a c g L R :=
 ⟨h.x.kp hk (fun e => e), h.rv.still hk, fun e => h.fx e.1, fun e => h.fa e.1, fun e => h.fg e.1, fun k e => ⟨h.new k (Nat.le_trans hk.size e), .inr e⟩, fun k e => h.low k e.1⟩
theorem Mx.ne (h : Mx B F w gx gs b a c g L R) {a' c' g' : Nat} {R' : Rs} (hr : Rv w a' c' g' R') : a' ≠ gx /\ g' ≠ gx := by
 obtain ⟨cur, hb, _⟩ := hr.row
 refine ⟨hb.type_ne h.x (by decide), fun e => ?_⟩
 have := h.x
 rw [<- e] at this
 exact hr.ch.not_cells this
theorem Mx.told (h : Mx B F w gx gs b a c g L R) {a' c' g' gs' : Nat} {R' : Rs} (hr : Rv w a' c' g' R') (fa : ¬ F a') (fg : ¬ F g') (hb : Box w' gx 41 (xcs b gs' a' c' g' L R').toArray) (hk : Kp (fun k => k = gx) w w') : Mx B F w' gx gs' b a' c' g' L R' :=
 ⟨hb, hr.kp hk (h.ne hr).1 (h.ne hr).2, h.fx, fa, fg, fun k e => h.new k (Nat.le_trans hk.size e), h.low⟩
theorem Mx.cells (h : Mx B F w gx gs b a c g L R) : w.cell? ⟨gx, 0, none⟩ = some (.pointer (some ⟨b, 0, none⟩)) /\ w.cell? ⟨gx, 1, none⟩ = some (.pointer (some ⟨gs, 0, none⟩)) /\ w.cell? ⟨gx, 2, none⟩ = some (.slice (some ⟨a, 0, none⟩) R.pg.length c) /\ w.cell? ⟨gx, 3, none⟩ = some (.map (some g)) /\ w.cell? ⟨gx, 4, none⟩ = some (.int .i64 (L : Int)) :=
 ⟨h.x.cell 0, h.x.cell 1, h.x.cell 2, h.x.cell 3, h.x.cell 4⟩
theorem xcs_split (b gs a c g L : Nat) (R : Rs) : xcs b gs a c g L R = [.pointer (some ⟨b, 0, none⟩), .pointer (some ⟨gs, 0, none⟩)] ++ rsV a c g R ++ [.int .i64 (L : Int)] := rfl
theorem Mx.rs (h : Mx B F w gx gs b a c g L R) : w.rangeAt gx 2 (rsV a c g R) := by
 have hb := h.x
 rw [xcs_split] at hb
 exact box_range [.pointer (some ⟨b, 0, none⟩), .pointer (some ⟨gs, 0, none⟩)] _ _ hb
end
theorem Sto.thr {F : Nat -> Prop} {w w' : World} {gs gl b g1 g2 : Nat} {s : Sm} {d : Dm} (h : Sto F w gs gl b g1 g2 s d) (hk : Kp (fun _ => False) w w') : Sto (Thr F w.heap.size w'.heap.size) w' gs gl b g1 g2 s d := h.shrink hk fun _ e1 e2 => ⟨e2, .inl e1⟩
theorem Dsk.thr {F : Nat -> Prop} {w w' : World} {b : Nat} {d : Dm} (h : Dsk F w b d) (hk : Kp (fun _ => False) w w') : Dsk (Thr F w.heap.size w'.heap.size) w' b d := h.shrink hk fun _ e1 e2 => ⟨e2, .inl e1⟩
theorem Sto.off {F : Nat -> Prop} {w w' : World} {gs gl b g1 g2 gx : Nat} {s : Sm} {d : Dm} (h : Sto F w gs gl b g1 g2 s d) (hx : ¬ F gx) (hk : Kp (fun k => k = gx) w w') : Sto F w' gs gl b g1 g2 s d := h.kp hk fun _k e1 e2 => hx (e2 ▸ e1)
theorem Dsk.offx {F : Nat -> Prop} {w w' : World} {b gx : Nat} {d : Dm} (h : Dsk F w b d) (hx : ¬ F gx) (hk : Kp (fun k => k = gx) w w') : Dsk F w' b d := h.kp hk fun _k e1 e2 => hx (e2 ▸ e1)
structure Jx (B : Nat) (F : Nat -> Prop) (w : World) (gx gs gl b g1 g2 a c g L N : Nat) (s : Sm) (d : Dm) (R : Rs) (C : Nat -> List UInt8) : Prop where
 m : Mx B F w gx gs b a c g L R
 sto : Sto F w gs gl b g1 g2 s d
 st : St d s L 128 hnB C N
 rel : Rel R s C 128
 note : s.note = nB
structure Zx (B : Nat) (F : Nat -> Prop) (w : World) (gx b L : Nat) (d : Dm) : Prop where
 m : ∃ gs a c g R, Mx B F w gx gs b a c g L R
 dk : Dsk F w b d
 off : Off d
def DidOk (B : Nat) (F : Nat -> Prop) (w' : World) (gx b L N : Nat) (d : Dm) (R : Rs) (C : Nat -> List UInt8) (x3 : Bool) (e : Ending) : Prop :=
 ∃ F', (∀ k, F' k -> F k) /\ ((e = .returned (.bool true) /\ ∃ gs gl g1 g2 a c g s' d' R' C', Jx B F' w' gx gs gl b g1 g2 a c g L (N + 600) s' d' R' C' /\ (C' = C \/ (x3 = true /\ C' = nowC C R.chg)) /\ (d.lit = false -> d'.lit = false)) \/
  ((∃ r, e = .returned (.bool r)) /\ d.lit = true /\ ∃ d', Zx B F' w' gx b L d' /\ (Rc d'.on L 128 hnB C (N + 600) \/ (x3 = true /\ Rc d'.on L 128 hnB (nowC C R.chg) (N + 600)))))
end Go.Proofs.YtepaeliamhjgiaaGreatDoor
namespace Go.Proofs.YtepaeliamhjgiaaGreatDoor
open Go.RowKit
section
variable {d : Dm} {s : Sm} {L n N : Nat} {hn : List UInt8} {C : Nat -> List UInt8} {R : Rs}
theorem St.same (h : St d s L n hn C N) {s' : Sm} (e1 : s'.l = s.l) (e2 : s'.n = s.n) (e3 : s'.late = s.late) (e4 : s'.dead = false) (e5 : s'.chg.Ok n) : St d s' L n hn C N := by
 obtain ⟨l, n', note, used, late, chg, cused, dead⟩ := s'
 dsimp only at e1 e2 e3 e4 e5
 subst e1 e2 e3 e4
 exact ⟨h.up, rfl, h.log, h.hL, h.hh, h.hs, h.now, h.in_, e5⟩
theorem St.pw (h : St d s L n hn C N) : s.pw d = true := by
 unfold Sm.pw
 rw [h.alive, h.up.power]
 rfl
theorem St.undead (h : St d s L n hn C N) : ({ s with dead := false } : Sm) = s := by
 have := h.alive
 obtain ⟨l, n', note, used, late, chg, cused, dead⟩ := s
 dsimp only at this
 subst this
 rfl
theorem putS_no (h : St d s L n hn C N) (i : Int) (p : List UInt8) (hi : i < 1 \/ (n : Int) <= i) : s.putS d i p = (s, 2) := by
 unfold Sm.putS
 rw [if_neg]
 rw [h.hs]
 simp only [hasP, putP, Bool.and_eq_true, decide_eq_true_eq, Bool.not_eq_true', decide_eq_false_iff_not]
 omega
theorem putS_yes (h : St d s L n hn C N) (i : Nat) (p : List UInt8) (h1 : 1 <= i) (hi : i < n) (hp : p.length = 512) : s.putS d (i : Int) p = ({ s with dead := false, chg := s.chg.put i p }, 0) := by
 unfold Sm.putS
 rw [if_pos, h.pw, if_pos rfl]
 ·rfl
 ·rw [h.hs]
  simp only [hasP, putP, Bool.and_eq_true, decide_eq_true_eq, Bool.not_eq_true', decide_eq_false_iff_not]
  omega
theorem Rel.put (h : Rel R s C n) (i : Nat) (p : List UInt8) (h1 : 1 <= i) : Rel ⟨R.pg, R.chg.put i p⟩ { s with dead := false, chg := s.chg.put i p } C n := by
 refine ⟨h.len, h.pg, by show R.chg.put i p = s.chg.put i p; rw [h.chg], ?_, h.cwf, h.c0, h.cm⟩
 have := h.now0
 unfold Rs.at_ Bm.put at *
 show ((if 0 = i then some p else R.chg 0)).getD _ = _
 rw [if_neg (by omega)]
 exact this
theorem St.put (h : St d s L n hn C N) (i : Nat) (p : List UInt8) (hi : i < n) (hp : p.length = 512) : St d { s with dead := false, chg := s.chg.put i p } L n hn C N := h.same rfl rfl rfl rfl (h.chg.put hi hp)
theorem Rel.use (h : Rel R s C n) (hs : s.n = n) (i : Nat) (hi : i < n) (h1 : 1 <= i) (u : Bool) (hu : s.cused i = !u) : Rel (R.setR i) (({ s with dead := false } : Sm).useS (i : Int) u) C n := by
 have hup : Bt.setF s.cused n (i : Int) u = Bt.upd s.cused i u := by
  unfold Bt.setF
  rw [if_pos (by simp [Bt.pgB]; omega)]
  rfl
 have hfl : flipL (R.at_ 0) i = Bt.pageL (Bt.upd s.cused i u) := by
  rw [h.now0, flip_page _ _ (by have := h.cwf.few; omega), hu, Bool.not_not]
 refine ⟨h.len, h.pg, ?_, ?_, ?_, ?_, h.cm⟩
 ·show R.chg.put 0 (flipL (R.at_ 0) i) = s.chg.put 0 (Bt.pageL (Bt.setF s.cused s.n (i : Int) u))
  rw [h.chg, hfl, hs, hup]
 ·have e : R.chg.put 0 (flipL (R.at_ 0) i) 0 = some (flipL (R.at_ 0) i) := by
   unfold Bm.put
   rw [if_pos rfl]
  show (R.chg.put 0 (flipL (R.at_ 0) i) 0).getD (R.pg.getD 0 []) = Bt.pageL (Bt.setF s.cused s.n (i : Int) u)
  rw [e, hs, hup, hfl, Option.getD_some]
 ·show Bt.Wf (Bt.setF s.cused s.n (i : Int) u) n
  rw [hs]
  exact setF_wf h.cwf _ _
 ·show Bt.setF s.cused s.n (i : Int) u 0 = true
  rw [hs, hup]
  unfold Bt.upd
  rw [if_neg (by omega)]
  exact h.c0
theorem St.use (h : St d s L n hn C N) (i : Int) (u : Bool) (h0 : 0 < n) : St d (({ s with dead := false } : Sm).useS i u) L n hn C N := h.same rfl rfl rfl rfl (h.chg.put h0 (Bt.pageL_length _))
theorem freeS_no (h : St d s L n hn C N) (i : Int) (hi : i < 1 \/ (n : Int) <= i \/ (0 <= i /\ s.cused i.toNat = false)) : s.freeS d i = (s, 2) := by
 unfold Sm.freeS
 rw [if_neg]
 rw [h.hs]
 simp only [hasP, freeP, Bt.hasB, Bt.pgB, h.hs, Bool.and_eq_true, Bool.or_eq_true, decide_eq_true_eq, Bool.not_eq_true', Bool.and_eq_false_iff, decide_eq_false_iff_not]
 rintro ⟨⟨a1, a2⟩, a3, a4⟩
 rcases hi with hi | hi | ⟨hi, hb⟩
 ·omega
 ·omega
 ·rcases a4 with a4 | a4
  ·omega
  ·rw [hb] at a4
   cases a4
theorem freeS_yes (h : St d s L n hn C N) (i : Nat) (h1 : 1 <= i) (hi : i < n) (hb : s.cused i = true) : s.freeS d (i : Int) = (({ s with dead := false } : Sm).useS (i : Int) false, 0) := by
 unfold Sm.freeS
 rw [if_pos, h.pw, if_pos rfl]
 rw [h.hs]
 simp only [hasP, freeP, Bt.hasB, Bt.pgB, h.hs, Bool.and_eq_true, Bool.or_eq_true, decide_eq_true_eq, Bool.not_eq_true', Bool.and_eq_false_iff, decide_eq_false_iff_not]
 exact ⟨⟨by omega, by omega⟩, by omega, .inr hb⟩
theorem allocS_yes (h : St d s L n hn C N) (k : Nat) (hk : k < n) : s.allocS d k = ({ (({ s with dead := false } : Sm).useS (k : Int) true) with chg := ((({ s with dead := false } : Sm).useS (k : Int) true).chg).put k zsec }, (k : Int), 0) := by
 unfold Sm.allocS
 rw [h.pw, if_pos rfl, if_pos (by rw [h.hs]; exact hk)]
theorem allocS_no (h : St d s L n hn C N) (k : Nat) (hk : ¬ k < n) : s.allocS d k = (s, 0, 5) := by
 unfold Sm.allocS
 rw [h.pw, if_pos rfl, if_neg (by rw [h.hs]; exact hk), h.undead]
theorem Rel.alloc (h : Rel R s C n) (hs : s.n = n) (k : Nat) (hk : k < n) (h1 : 1 <= k) (hu : s.cused k = false) : Rel ⟨R.pg, (R.setR k).chg.put k zsec⟩ { (({ s with dead := false } : Sm).useS (k : Int) true) with chg := ((({ s with dead := false } : Sm).useS (k : Int) true).chg).put k zsec } C n :=
 (h.use hs k hk h1 true (by rw [hu]; rfl)).put k zsec h1
theorem St.alloc (h : St d s L n hn C N) (k : Nat) (hk : k < n) : St d { (({ s with dead := false } : Sm).useS (k : Int) true) with chg := ((({ s with dead := false } : Sm).useS (k : Int) true).chg).put k zsec } L n hn C N := (h.use (k : Int) true (by omega)).same rfl rfl rfl rfl ((h.use (k : Int) true (by omega)).chg.put hk zsec_length)
theorem Rel.abort (h : Rel R s C n) (h0 : 0 < n) : Rel ⟨R.pg, bnone⟩ s.abortS C n := by
 refine ⟨h.len, h.pg, rfl, ?_, h.cm.wf, h.cm.u0, h.cm⟩
 show R.pg.getD 0 [] = Bt.pageL s.used
 rw [h.pg 0 h0, h.cm.p0]
theorem St.abort (h : St d s L n hn C N) : St d s.abortS L n hn C N := h.same rfl rfl rfl h.alive (bnone_ok n)
theorem Rel.cmNow (h : Rel R s C n) (h0 : 0 < n) : Cm (nowC C s.chg) s.cused n := by
 refine ⟨?_, h.cwf, h.c0⟩
 rw [<- h.at h0]
 exact h.now0
theorem Rel.commit (h : Rel R s C n) (h0 : 0 < n) {s' : Sm} (e1 : s'.used = s.cused) (e2 : s'.cused = s.cused) (e3 : s'.chg = bnone) : Rel R.comR s' (nowC C s.chg) n := by
 refine ⟨by rw [comR_length]; exact h.len, fun i hi => ?_, by rw [e3]; rfl, ?_, by rw [e2]; exact h.cwf, by rw [e2]; exact h.c0, by rw [e1]; exact h.cmNow h0⟩
 ·have := comR_at R i (by rw [h.len]; exact hi)
  rw [h.at hi] at this
  exact this
 ·rw [comR_at R 0 (by rw [h.len]; exact h0), e2]
  exact h.now0
theorem bnone_of {m : Bm} (hm : m.Ok n) (hk : m.keys n = []) : m = bnone := by
 funext i
 cases hi : m i with
 |none => rfl
 |some p =>
  have : i ∈ m.keys n := (mem_keys i).2 ⟨hm.in_ i p hi, by rw [hi]; rfl⟩
  rw [hk] at this
  cases this
theorem Rel.still (h : Rel R s C n) (h0 : 0 < n) (hc : s.chg = bnone) : Rel R.comR s C n := by
 have hn := h.cmNow h0
 rw [hc] at hn
 have hpg : Bt.pageL s.cused = Bt.pageL s.used := by rw [<- hn.p0, <- h.cm.p0]; rfl
 have hcu : s.cused = s.used := by rw [<- pbit_page _ n h.cwf, hpg, pbit_page _ n h.cm.wf]
 have := h.commit h0 (s' := s) hcu.symm rfl hc
 rw [hc] at this
 exact this
theorem pageS_no (i : Int) (h : St d s L n hn C N) (hi : i < 0 \/ (n : Int) <= i) : s.pageS d i = (s, [], 2) := by
 unfold Sm.pageS
 rw [if_neg]
 rw [h.hs]
 simp only [hasP, Bool.and_eq_true, decide_eq_true_eq]
 omega
theorem pageS_yes (h : St d s L n hn C N) (i : Nat) (hi : i < n) : s.pageS d (i : Int) = (s, nowC C s.chg i, 0) := by
 unfold Sm.pageS
 rw [if_pos (by rw [h.hs]; simp [hasP]; omega), h.pw, if_pos rfl]
 have e : ((i : Int)).toNat = i := by omega
 rw [e, h.undead]
 have hnow := h.now i hi
 unfold nowC
 cases hc : s.chg i with
 |some p => rfl
 |none =>
  rw [<- hnow]
  cases hl : s.late i with
  |some p => rfl
  |none =>
   have hin := h.in_
   have hlL := h.hL
   have hsec : secB d ((2 + s.l.h.n + i : Nat) : Int) = true := by
    simp [secB]
    omega
   have hr : d.readS ((2 + s.l.h.n + i : Nat) : Int) = (onV d.on (2 + L + i), 0) := by
    unfold Dm.readS
    rw [h.up.power, hsec]
    show (d.nowAt ((2 + s.l.h.n + i : Nat) : Int).toNat, (0 : Int)) = _
    rw [Up.now h.up.wait, hlL]
    rfl
   show (({ s with dead := (d.readS ((2 + s.l.h.n + i : Nat) : Int)).2 == 4 } : Sm), (d.readS ((2 + s.l.h.n + i : Nat) : Int)).1, (d.readS ((2 + s.l.h.n + i : Nat) : Int)).2) = _
   rw [hr]
   have := h.undead
   show (({ s with dead := false } : Sm), onV d.on (2 + L + i), (0 : Int)) = _
   rw [this]
   rfl
end
end Go.Proofs.YtepaeliamhjgiaaGreatDoor
