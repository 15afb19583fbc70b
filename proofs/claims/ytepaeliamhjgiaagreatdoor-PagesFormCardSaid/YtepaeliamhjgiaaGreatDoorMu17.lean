/- The law of pages, part 17 of 55: WlMem WlWrite WlFound ShIter ShNeed. -/
import Derived.Test.YtepaeliamhjgiaaGreatDoorMu14
import Derived.Test.YtepaeliamhjgiaaGreatDoorMu5
import Derived.Test.YtepaeliamhjgiaaGreatDoorMu16
import Derived.Test.YtepaeliamhjgiaaGreatDoorMu12
import Derived.RangeFuncNested
import Derived.RangeFuncBound
import Derived.RangeFuncCalls
import Derived.RangeFuncLeaves
import Derived.Shelf.Abstract
import Derived.Shelf.RegionOpen
import Derived.WalkKit
import Derived.OwnWalkIn
import Derived.TacticsInMore
import Derived.LoopNIn
import Derived.LoopIn
import Derived.BigRegionIn
import Derived.Sort.QuietIn
import Derived.Test.YtepaeliamhjgiaaGreatDoorChecked
import Derived.Test.YtepaeliamhjgiaaGreatDoorMu1
import Derived.IntWalk
set_option maxHeartbeats 16000000
set_option maxRecDepth 100000
namespace Go.Proofs.YtepaeliamhjgiaaGreatDoor
open Go.RowKit Go.Maps
theorem Dsk.bothG {G : Nat -> Prop} {w : World} {b : Nat} {d : Dm} (h : Dsk G w b d) : Dsk (fun k => G k /\ DT w k) w b d := by
 obtain ⟨vs, vw, gm, h1, h2⟩ := h
 refine ⟨vs, vw, gm, h1, fun k hk => ⟨h2 k hk, ?_⟩⟩
 rcases hk with rfl | e | e | rfl
 ·exact .inr (.inl ⟨_, _, h1.box⟩)
 ·obtain ⟨cur, hc⟩ := own_block h1.st e; exact .inr (.inr (.inl ⟨_, _, hc⟩))
 ·obtain ⟨cur, hc⟩ := own_block h1.wt e; exact .inr (.inr (.inr (.inl ⟨_, _, hc⟩)))
 ·obtain ⟨n, D, ⟨es, clock, hm, _⟩, _⟩ := h1.nm; exact .inr (.inr (.inr (.inr ⟨_, _, hm⟩)))
theorem Dsk.off {F : Nat -> Prop} {w w' : World} {b : Nat} {d : Dm} {g : Nat} {t : TypeId} {cs : Array Value} (h : Dsk F w b d) (hg : Box w g t cs) (ht : LT t) (hk : Kp (fun k => k = g) w w') : Dsk F w' b d := by
 obtain ⟨vs, vw, gm, h1, h2⟩ := h
 refine ⟨vs, vw, gm, h1.kp hk fun k hf e => ?_, h2⟩
 have e' : k = g := e
 subst e'
 rcases hf with rfl | e | e | rfl
 ·exact Box.type_ne hg h1.box ht.1 rfl
 ·obtain ⟨cur, hc⟩ := own_block h1.st e; exact Box.type_ne hg hc ht.2.1 rfl
 ·obtain ⟨cur, hc⟩ := own_block h1.wt e; exact Box.type_ne hg hc ht.2.2 rfl
 ·obtain ⟨n, D, ⟨es, clock, hm, _⟩, _⟩ := h1.nm; unfold Box at hg; rw [hm] at hg; cases hg
theorem DT.back {w W : World} {k : Nat} (hk : k < w.heap.size) (h : DT W k) (he : W.heap[k]? = w.heap[k]?) (hs : w.heap.size <= W.heap.size) : DT w k := by
 rcases h with h | h | h | h | h
 ·exact absurd (Nat.lt_of_lt_of_le hk hs) (Nat.not_lt.2 h)
 all_goals (rw [he] at h)
 ·exact .inr (.inl h)
 ·exact .inr (.inr (.inl h))
 ·exact .inr (.inr (.inr (.inl h)))
 ·exact .inr (.inr (.inr (.inr h)))
theorem Kp.dtrans {G : Nat -> Prop} {w W W1 : World} (h : Kp (fun k => G k /\ DT w k) w W) (h1 : Kp (fun k => G k /\ DT W k) W W1) : Kp (fun k => G k /\ DT w k) w W1 :=
 ⟨h1.os.trans h.os, h1.tape.trans h.tape, h1.output.trans h.output, Nat.le_trans h.size h1.size, fun k hk hn => by
  have e := h.block k hk hn
  rw [h1.block k (Nat.lt_of_lt_of_le hk h.size) (fun hh => hn ⟨hh.1, hh.2.back hk e h.size⟩)]
  exact e⟩
theorem newG {G : Nat -> Prop} {w W : World} (hG : ∀ k, w.heap.size <= k -> G k) (hs : w.heap.size <= W.heap.size) : ∀ k, W.heap.size <= k -> G k /\ DT W k := fun k h => ⟨hG k (Nat.le_trans hs h), .inl h⟩
theorem Dsk.fit {F : Nat -> Prop} {w : World} {b : Nat} {d : Dm} (h : Dsk F w b d) : ∃ F', Dsk F' w b d /\ ∀ q, F' q -> F q /\ q < w.heap.size := by
 obtain ⟨vs, vw, gm, h1, h2⟩ := h
 exact ⟨_, ⟨vs, vw, gm, h1, fun _ e => e⟩, fun q e => ⟨h2 q e, h1.lt q e⟩⟩
theorem hd5_cells {w : World} {g : Nat} {t : TypeId} {h : Hd} {a : Nat} (hb : Box w g t (hcs h a).toArray) : w.cell? ⟨g, 0, none⟩ = some (.int .u64 h.g) /\ w.cell? ⟨g, 1, none⟩ = some (.int .u64 h.f) /\ w.cell? ⟨g, 2, none⟩ = some (.int .i64 h.n) /\ w.cell? ⟨g, 3, none⟩ = some (.string ⟨h.note.toArray⟩) /\ w.cell? ⟨g, 4, none⟩ = some (.int .i64 a) := ⟨hb.cell 0, hb.cell 1, hb.cell 2, hb.cell 3, hb.cell 4⟩
theorem own_off_type {w : World} {base : Nat} {e t : TypeId} {size n g c : Nat} {xs : List Value} (ho : w.ownsRow base e size (.slice (some ⟨g, 0, none⟩) n c) n xs) (hne : e ≠ t) : ∀ ad : Addr, some (⟨g, 0, none⟩ : Addr) = some ad -> ∀ cs fr, w.heap[ad.block]? ≠ some (.cells cs t fr) := by
 rintro ad e1 cs fr hh
 cases e1
 obtain ⟨cur, hc⟩ := own_block ho (k := g) (by simp [Value.ownBlock])
 rw [hc] at hh
 injection hh with hh
 injection hh with _ h2
 exact hne h2
section
variable {w : World} {b : Nat} {d : Dm} {F : Nat -> Prop}
theorem hwrite_any (hF : ∀ k, w.heap.size <= k -> F k) (hD : Dsk F w b d) (ht : Tbl w) (h : Hd) (a : Nat) (ok : h.ok) (hw : d.wait.length + 1 < 1073741824) :
  Calls Tryz.prog 104 #[.agg (hcs h a).toArray, .pointer (some ⟨b, 0, none⟩)] w fun e w' => e = .returned (.int .i64 (d.putHead a h).2) /\ Dsk F w' b (d.putHead a h).1 /\ Kp F w w' := by
 have HF := hHd hF
 have DD := hHd hD
 have HT := hHd ht
 have OK := hHd ok
 have HW := hHd hw
 have HLN := hHd (hsec_length h ok.note_)
 have hp : d.putHead a h = if (d.writeS a (hsec h)).2 = 0 then (d.writeS a (hsec h)).1.flushS else d.writeS a (hsec h) := by
  unfold Dm.putHead
  rcases d.writeS a (hsec h) with ⟨d1, e⟩
  dsimp only
 have HP := hHd hp
 clear hF hD ht ok hw hp
 have B0 := hHd (Box.new w 122 (hcs h a).toArray)
 have K0 := hHd ((Kp.refl (fun _ => False) w).alloc (.cells (hcs h a).toArray 122))
 go_enter Tryz.func104, Tryz.ntmps104
 go_upto_region 1 with fail
 generalize w.alloc (.cells (hcs h a).toArray 122) = w0 at *
 refine wp_region_held_drew (S := fun v => v.cell? ⟨w.heap.size, 0, none⟩ = some (.int .u64 h.g) /\ v.cell? ⟨w.heap.size, 1, none⟩ = some (.int .u64 h.f) /\ v.cell? ⟨w.heap.size, 2, none⟩ = some (.int .i64 h.n) /\ v.cell? ⟨w.heap.size, 3, none⟩ = some (.string ⟨h.note.toArray⟩) /\ v.cell? ⟨w.heap.size, 4, none⟩ = some (.int .i64 a)) (by kernel_rfl) (hd5_cells B0.out) (fun hHeld => ?_)
 refine tk 0 (h := ?_)
 refine tk 1 (h := ?_)
 refine tk 2 (h := ?_)
 refine tk 3 (h := ?_)
 refine rd 4 (h := fun K hK => ?_)
 go_simp
 refine (hbytes_any h a w0.drew OK.out (HT.out.kp K0.out.drew (fun e => e))).mono ?_
 rintro e w1 ⟨g, c, rfl, _, _, ho, hg, hk⟩
 have B1 := hHd ((B0.out.drew).kp hk (fun e => e))
 have K1 := hHd (K0.out.drew.trans hk)
 have D1 := hHd (DD.out.still K1.out)
 have R1 := hHd (Rd.of_own ho)
 have N1 := hHd (own_off_type (t := 158) ho (by decide))
 clear ho hk
 go_wp2_with fail
 refine hK.out _ _ (hd5_cells B1.out) (fun hHeld1 => ?_)
 clear hK K
 try simp only [Act.put, sIa, sI0, sI1]
 refine rd 5 (h := fun K hK => ?_)
 go_simp
 have hwr := write_any (newG HF.out K1.out.size) D1.out.bothG a (some ⟨g, 0, none⟩) (hsec h) c R1.out N1.out HW.out
 rw [HLN.out] at hwr
 refine hwr.mono ?_
 clear hwr
 rintro e w2 ⟨rfl, hd, hk⟩
 have D2 := hHd (hd.mono (F' := F) (fun _ e => e.1))
 have K2 := hHd ((K1.out.of_false (S := F)).trans (hk.mono (fun _ _ e => e.1)))
 have B2 := hHd (B1.out.kp hk (fun e => not_DT B1.out ⟨by decide, by decide, by decide⟩ e.2))
 clear hd hk
 go_wp2_with fail
 refine hK.out _ _ (hd5_cells B2.out) (fun hHeld2 => ?_)
 clear hK K
 try simp only [Act.put, sIa, sI0, sI1]
 refine tk 6 (h := ?_)
 refine wpAnyH_done (by kernel_rfl) ?_ _
 by_cases he : (d.writeS a (hsec h)).2 = 0
 ·rw [if_pos he] at HP
  rw [he]
  clear he hHeld hHeld1 hHeld2
  go_wp2_with fail
  refine (flush_any D2.out).mono ?_
  rintro e w3 ⟨rfl, hd, hk⟩
  have D3 := hHd hd
  have K3 := hHd (K2.out.trans hk)
  clear hd hk
  go_wp2_with fail
  go_ret
  rw [HP.out]
  exact ⟨rfl, D3.out, K3.out⟩
 ·rw [if_neg he] at HP
  obtain ⟨x, hx⟩ : ∃ x, (d.writeS a (hsec h)).2 = x := ⟨_, rfl⟩
  have hne : (x != 0) = true := by simpa [hx] using he
  rw [hx]
  have HX := hHd hx
  clear he hx hHeld hHeld1 hHeld2
  go_wp2_with fail
  go_ret
  rw [HP.out]
  exact ⟨by rw [HX.out]; rfl, D2.out, K2.out⟩
end
theorem Fm.mono {w : World} {g N N' : Nat} {F : Nat -> Option Sh} (h : Fm w g N F) (hn : N <= N') : Fm w g N' F := by
 obtain ⟨n, D, ho, hl, r⟩ := h
 exact ⟨n, D, ho, Nat.le_trans hl hn, r⟩
theorem takeV_mk {l : List UInt8} {s : Sh} (h : takeS l = some s) : takeV l = .tuple #[.agg #[.int .u64 s.q, .bool s.last, .string ⟨s.t.toArray⟩], .int .i64 0] := takeV_some h
section
variable {w : World} {b : Nat} {d : Dm} {F : Nat -> Prop}
theorem inPlace_any (hD : Dsk F w b d) (ht : Tbl w) (n : Nat) (hn0 : 0 < n) (hn : n <= 512) (hlen : 2 + n <= d.on.length) (hp : d.power = true) :
  Calls Tryz.prog 86 #[.pointer (some ⟨b, 0, none⟩), .int .i64 n] w fun e w' => ∃ g, e = .returned (.tuple #[.map (some g), .int .i64 0]) /\ w.heap.size <= g /\ Fm w' g n (sheetF d.nowAt n) /\ Kp (fun _ => False) w w' := by
 obtain ⟨vs, vw, gm, hdk, hsub⟩ := hD
 have OK := hHd hdk.ok
 have DD := hHd (show Dsk F w b d from ⟨vs, vw, gm, hdk, hsub⟩)
 have HT := hHd ht
 have HP := hHd hp
 have HLN := hHd hlen
 have FM := hHd (Fm.made w)
 have KM := hHd ((Kp.refl (fun _ => False) w).alloc (.map #[] 0))
 clear hdk hsub ht hp hlen
 have hmm := @run_makeMap Tryz.prog
 go_enter Tryz.func86, Tryz.ntmps86
 go_wp2_with fail
 clear hmm
 generalize w.alloc (.map #[] 0) = w0 at *
 go_loopw [7] (fun i wr => ∃ k : Nat, k <= n /\ i = .int .i64 ((2 + k : Nat) : Int) /\ Fm wr w.heap.size k (foundK d.nowAt n k) /\ Kp (fun _ => False) w wr)
  (fun i _ => 2 + n - (intOf i).toNat)
 case atStart => exact ⟨0, Nat.zero_le _, rfl, by rw [foundK_zero]; exact FM.out, KM.out⟩
 case round =>
  obtain ⟨k, hk, rfl, hfm, hkw⟩ := hrel
  have HF := hHd hfm
  have HK := hHd hkw
  clear hfm hkw
  have hgl := HF.out.lt
  obtain ⟨at_, hat⟩ : ∃ a, 2 + k = a := ⟨_, rfl⟩
  rw [hat]
  have HAT := hHd hat
  by_cases hlt : k < n
  ·have hd1 : ((at_ : Int) < 2 + (n : Int)) := by omega
   have hrd := read_any (DD.out.still HK.out) at_
   have hx : d.readS at_ = (d.nowAt at_, 0) := by
    have : secB d at_ = true := by have := HLN.out; simp [secB]; omega
    simp [Dm.readS, HP.out, this]
   rw [hx] at hrd
   dsimp only at hrd
   have hl5 : (d.nowAt at_).length = 512 := nowAt_length OK.out at_ (by have := HLN.out; omega)
   obtain ⟨l, hl⟩ : ∃ l, d.nowAt at_ = l := ⟨_, rfl⟩
   rw [hl] at hrd hl5
   rw [hl5] at hrd
   have HL := hHd (show d.nowAt (2 + k) = l by rw [hat]; exact hl)
   have HL5 := hHd hl5
   clear hat hx hl hl5
   go_wp2_with fail
   refine hrd.mono ?_
   clear hrd
   rintro e w1 ⟨A, rfl, hr, hk1⟩
   have R1 := hHd hr
   have K1 := hHd (HK.out.trans hk1)
   have F1 := hHd (HF.out.kp hk1 (fun e => e))
   clear hr hk1
   go_wp2_with fail
   refine (take_any A 512 512 l w1 R1.out (HT.out.kp K1.out (fun e => e)) HL5.out).mono ?_
   rintro e w2 ⟨rfl, hk2⟩
   have K2 := hHd (K1.out.trans hk2)
   have F2 := hHd (F1.out.kp hk2 (fun e => e))
   clear hk2
   rcases hs : takeS l with _ | s
   ·rw [takeV_none hs]
    have HFK := hHd (foundK_none (V := d.nowAt) (n := n) (k := k) (by rw [HL.out]; exact hs))
    clear hs
    go_wp2_with fail
    go_roundw
    case rel =>
     refine ⟨k + 1, by omega, ?_, ?_, K2.out.alloc _⟩
     ·have := HAT.out
      rw [show ((2 + (k + 1) : Nat) : Int) = (at_ : Int) + 1 by omega]
     ·rw [HFK.out]
      exact (F2.out.kp ((Kp.refl (fun _ => False) w2).alloc _) (fun e => e)).mono (by omega)
    case measure => simp [intOf]; omega
   ·rw [takeV_mk hs]
    have hq : s.q < 18446744073709551616 := (takeS_lt hs).1
    have HS := hHd (show takeS (d.nowAt (2 + k)) = some s by rw [HL.out]; exact hs)
    clear hs
    have F3 := hHd (F2.out.kp ((Kp.refl (fun _ => False) w2).alloc (.cells #[.int .u64 s.q, .bool s.last, .string ⟨s.t.toArray⟩] 172)) (fun e => e))
    have K3 := hHd (K2.out.alloc (.cells #[.int .u64 s.q, .bool s.last, .string ⟨s.t.toArray⟩] 172))
    have B3 := hHd (Box.new w2 172 #[.int .u64 s.q, .bool s.last, .string ⟨s.t.toArray⟩])
    have HQ := hHd hq
    clear hq
    go_upto_region 9 with fail
    generalize w2.alloc (.cells #[.int .u64 s.q, .bool s.last, .string ⟨s.t.toArray⟩] 172) = w3 at *
    generalize w2.heap.size = g3 at *
    have c0 := B3.out.cell 0
    simp at c0
    go_wp2_with fail
    refine (place_any s.q n w3 HQ.out hn0 hn).mono ?_
    rintro e w4 ⟨rfl, rfl⟩
    by_cases hpl : s.q % n = k
    ·have HFK := hHd (foundK_put HS.out hpl)
     rw [hpl, HAT.out]
     clear hpl
     have c1 := B3.out.cell 1
     have c2 := B3.out.cell 2
     simp at c1 c2
     go_wp2_with (first | (refine wpList_putSh rfl (.tmp 43) (.tmp 45) (.tmp 46) rfl (g := w.heap.size) (N := k) rfl F3.out (by omega) s HQ.out rfl rfl ?_; intro w5 hf5 hk5) | fail)
     go_roundw
     case rel =>
      refine ⟨k + 1, by omega, ?_, ?_, K3.out.trans_new hk5 (fun b e => .inl (by omega))⟩
      ·have := HAT.out
       rw [show ((2 + (k + 1) : Nat) : Int) = (at_ : Int) + 1 by omega]
      ·rw [HFK.out]
       exact hf5
     case measure => simp [intOf]; omega
    ·have HFK := hHd (foundK_far HS.out hpl)
     obtain ⟨p, hp⟩ : ∃ p, 2 + s.q % n = p := ⟨_, rfl⟩
     rw [hp]
     have hne : ((p : Int) == (at_ : Int)) = false := by have := HAT.out; simp; omega
     have hne2 : (p == at_) = false := by have := HAT.out; simp; omega
     clear hpl hp
     go_wp2_with fail
     go_roundw
     case rel =>
      refine ⟨k + 1, by omega, ?_, ?_, K3.out⟩
      ·have := HAT.out
       rw [show ((2 + (k + 1) : Nat) : Int) = (at_ : Int) + 1 by omega]
      ·rw [HFK.out]
       exact F3.out.mono (by omega)
     case measure => simp [intOf]; omega
  ·have hd1 : ¬ ((at_ : Int) < 2 + (n : Int)) := by omega
   have hkn : k = n := by omega
   have HFA := hHd (show Fm wr w.heap.size n (sheetF d.nowAt n) by
    have := HF.out
    rw [hkn] at this
    rwa [foundK_all _ _ hn0] at this)
   clear hkn hat
   go_wp2_with fail
   go_ret2
   exact ⟨_, rfl, Nat.le_refl _, HFA.out, HK.out⟩
end
theorem behind_any {w : World} {g N : Nat} {F : Nat -> Option Sh} (h : Fm w g N F) (hb : ∀ q s, F q = some s -> q < 18446744073709551616) (f : Nat) (hf : f < 18446744073709551616) :
  Calls Tryz.prog 87 #[.map (some g), .int .u64 f] w fun e w' => ∃ r, e = .returned (.int .u64 (r : Nat)) /\ IsNext F f r /\ Kp (fun _ => False) w w' := by
 have HB := hHd hb
 have HFF := hHd hf
 obtain ⟨n, D, ho, _, hD⟩ := h
 have HD := hHd hD
 have HO := hHd ho
 clear hb hf ho hD
 go_enter Tryz.func87, Tryz.ntmps87
 go_wp2_with (first | (at_range; refine wpList_range_own _ rfl _ 125 rfl 79 172 keyedU Tryz.underlying125 rdSh g n D rfl HO.out ?_; intro w0 hrg0 hg0 hs0) | fail)
 go_frame
 have KM := hHd ((Kp.refl (fun _ => False) w).grown hg0 (fun k e => by cases e))
 have HR0 := hHd hrg0
 clear hrg0 hg0 hs0
 go_loopw [1] (fun s1 wr => ∃ (m : Nat) (left : Lit -> Bool) (cnt : Nat), s1 = .int .u64 m /\ m < 18446744073709551616 /\ MaxF F D f m left /\ wr.ranges Tryz.prog 79 rdSh g w.heap.size n D left cnt /\ Kp (fun _ => False) w wr)
  (fun _ wr => wr.rangeLeft g w.heap.size)
 case atStart => exact ⟨f, _, _, rfl, HFF.out, MaxF.start HD.out f, HR0.out, KM.out⟩
 case round =>
  obtain ⟨m, left, cnt, rfl, hm, hmax, hrg, hkw⟩ := hrel
  have HMX := hHd hmax
  have HRG := hHd hrg
  have HKW := hHd hkw
  have HM := hHd hm
  clear hmax hrg hkw hm
  go_wp2_with (first | (at_next; refine wpList_next_ranges _ rfl _ rfl 79 keyedU rdSh (Value.int .u64) mkSh (fun key kl hk => by obtain ⟨x, e, _⟩ := Maps.keyOf_int_inv Tryz.underlying79 hk; exact ⟨x, e⟩) (fun v y hv => by obtain ⟨s, e, _⟩ := rdSh_inv hv; exact ⟨s, e⟩) g w.heap.size n D _ _ rfl HRG.out ?_ ?_) | fail)
  ·intro hc0 hl0
   have HL0 := hHd hl0
   clear hc0 hl0
   go_wp2_with fail
   go_ret
   exact ⟨m, rfl, HMX.out.done HB.out HL0.out, HKW.out⟩
  ·intro x c kl da db w1 cnt1 hkey hlx _ _ hrg1 hlt hg1 _ hen
   obtain ⟨x', e, rfl, hwx⟩ := Maps.keyOf_int_inv Tryz.underlying79 hkey
   cases e
   obtain ⟨q, rfl, hq⟩ := wf_u64' hwx
   have HST := hHd (HMX.out.step HD.out q hq hlx)
   have HR1 := hHd hrg1
   have K1 := hHd (HKW.out.grown hg1 (fun k e => by cases e; exact .inl (Nat.le_refl _)))
   have HLT := hHd hlt
   clear hkey hlx hrg1 hlt hg1 hwx
   have hy64 : (q + 1) % 18446744073709551616 < 18446744073709551616 := Nat.mod_lt _ (by decide)
   have hw : IntKind.u64.wrap ((q : Int) + 1) = (((q + 1) % 18446744073709551616 : Nat) : Int) := wrap_next q
   generalize (q + 1) % 18446744073709551616 = y at *
   have HY := hHd hy64
   clear hq hy64
   go_wp2_with fail
   go_roundw
   case rel => exact ⟨max m y, _, cnt1, by congr 1; omega, Nat.max_lt.2 ⟨HM.out, HY.out⟩, HST.out, HR1.out, K1.out⟩
   case measure => rw [HR1.out.left_eq, HRG.out.left_eq]; exact HLT.out
end Go.Proofs.YtepaeliamhjgiaaGreatDoor
namespace Go.Proofs.YtepaeliamhjgiaaGreatDoor
open Go.RowKit Go.Shelf
attribute [local go_sem] Oper.semAt_some
def cells3 (s : Sh) : Array Value := #[.int .u64 s.q, .bool s.last, .string ⟨s.t.toArray⟩]
theorem sheets_in (F : Fence) (n : Nat) (h12 : F.fn 170) (hro : F.round = none) (q : Int) (s : ByteArray) (w : World) :
  CallsIn F n Tryz.prog 170 #[.int .u64 q, .string s] w fun e w' => e = .returned (.func (.func 185) #[] #[.pointer (some ⟨w.heap.size, 0, none⟩), .pointer (some ⟨w.heap.size + 1, 0, none⟩)]) /\ w' = (w.alloc (.cells #[.int .u64 q] 79)).alloc (.cells #[.string s] 9) := by
 refine callsIn_of_wp Tryz.func170 rfl h12 ?_ hro
 simp only [Tryz.ntmps170, List.size_toArray, List.length_cons, List.length_nil, Nat.reduceAdd, Nat.reduceSub, Array.replicate_succ, Array.replicate_zero, List.push_toArray, List.append_toArray, List.nil_append, List.cons_append]
 gi_wp2
 go_ret
 exact ⟨rfl, rfl⟩
theorem ext_upto (r : List UInt8) (k : Nat) : (⟨r.toArray⟩ : ByteArray).extract 0 k = ⟨(r.take k).toArray⟩ := by
 apply ByteArray.ext
 simp [ByteArray.data_extract]
theorem ext_from (r : List UInt8) (k n : Nat) (h : r.length = n) : (⟨r.toArray⟩ : ByteArray).extract k n = ⟨(r.drop k).toArray⟩ := by
 subst h
 apply ByteArray.ext
 simp [ByteArray.data_extract]
 exact List.take_of_length_le (by simp)
theorem at_next (q k : Nat) : IntKind.u64.wrap ((((q + k) % 18446744073709551616 : Nat) : Int) + 1) = (((q + (k + 1)) % 18446744073709551616 : Nat) : Int) := by
 have h (n : Nat) : IntKind.u64.wrap ((n : Int) + 1) = (((n + 1) % 18446744073709551616 : Nat) : Int) := by
  simp [IntKind.wrap, IntKind.signed, IntKind.bits]
 rw [h]
 have : ((q + k) % 18446744073709551616 + 1) % 18446744073709551616 = (q + (k + 1)) % 18446744073709551616 := by rw [Nat.mod_add_mod]; rfl
 rw [this]
def strLen : Value -> Nat
 |.string s => s.size
 |_ => 0
theorem fin_take (m k : Nat) (h : k < m) : (List.finRange m).take (k + 1) = (List.finRange m).take k ++ [⟨k, h⟩] := by
 rw [List.take_succ_eq_append_getElem (by simpa using h)]
 simp
theorem sheets1_in (F : Fence) (n : Nat) (h20 : F.fn 185) (hro : F.round = none) (hn : 1 <= n) (l Bs Bn q m : Nat) (tx : List UInt8) (hmx : tx.length <= 140737488355328) (hm : need tx.length = m) (hq : q < 18446744073709551616) (J Jx : List (Fin m) -> World -> Prop)
  (hJd : ∀ n pre w, J pre w -> J pre (w.drewN n))
  (hY : ∀ pre x W, J pre W -> pre.length < m -> YieldAt F (n - 1) Tryz.prog l #[.agg (cells3 (shAt q tx x.1))] W fun e W' =>
   (e = .returned (.bool true) /\ J (pre ++ [x]) W' /\ Kp (fun k => k ≠ Bs /\ k ≠ Bn) W W') \/ (e = .returned (.bool false) /\ Jx (pre ++ [x]) W'))
  (W : World) (_hBs : Bs < W.heap.size) (_hBn : Bn < W.heap.size) (hcs : W.cell? ⟨Bs, 0, none⟩ = some (.int .u64 q)) (hcn : W.cell? ⟨Bn, 0, none⟩ = some (.string ⟨tx.toArray⟩)) (h0 : J [] W) :
  CallsIn F n Tryz.prog 185 #[.func (.yield l) #[] #[], .pointer (some ⟨Bs, 0, none⟩), .pointer (some ⟨Bn, 0, none⟩)] W fun e W' => (∃ v, e = .returned v) /\
   ((∃ ys, ys = List.finRange m /\ J ys W') \/ (∃ pre, (∃ k, k <= m /\ pre = (List.finRange m).take k) /\ Jx pre W')) := by
 refine callsIn_of_wp Tryz.func185 rfl h20 ?_ hro
 simp only [Tryz.ntmps185, List.size_toArray, List.length_cons, List.length_nil, Nat.reduceAdd, Nat.reduceSub, Array.replicate_succ, Array.replicate_zero, List.push_toArray, List.append_toArray, List.nil_append, List.cons_append]
 gi_wp2
 rcases F with ⟨_, _, _⟩
 dsimp only at hro
 subst hro
 gi_quiet (fail)
 gi_wp2
 gi_loopw [4, 5] (fun u v wr => ∃ k : Nat, k < m /\ u = .int .u64 (((q + k) % 18446744073709551616 : Nat) : Int) /\ v = .string ⟨(tx.drop (497 * k)).toArray⟩ /\ J ((List.finRange m).take k) wr /\ Kp (fun k => k ≠ Bs /\ k ≠ Bn) W wr)
  (fun _ v _ => strLen v)
 case atStart =>
  exact ⟨0, by have := need_pos tx.length; omega, by rw [Nat.add_zero, Nat.mod_eq_of_lt hq], by rw [Nat.mul_zero, List.drop_zero], hJd _ _ _ h0, (Kp.refl _ _).drewN _⟩
 case round =>
  obtain ⟨k, hk, rfl, rfl, hJs, hnx⟩ := hrel
  have hyy := hY ((List.finRange m).take k) ⟨k, hk⟩ wr hJs (by simp; omega)
  have hnn : need tx.length = m := hm
  have hat := at_next q k
  have hdr : tx.drop (497 * (k + 1)) = (tx.drop (497 * k)).drop 497 := by rw [List.drop_drop, Nat.mul_succ]
  have hrl : (tx.drop (497 * k)).length = tx.length - 497 * k := List.length_drop ..
  have hbl : (k + 1 == need tx.length) = decide (¬ 497 < (tx.drop (497 * k)).length) := by
   rw [hrl, Bool.eq_iff_iff]
   unfold need at hnn ⊢
   simp
   omega
  have hlt : k + 1 < m ↔ 497 < (tx.drop (497 * k)).length := by
   rw [hrl]
   unfold need at hnn
   omega
  have hle : (tx.drop (497 * k)).length <= 140737488355328 := by rw [hrl]; omega
  simp only [cells3, shAt, hbl] at hyy
  have HDR := hHd hdr
  clear hrl hnn hbl hdr
  generalize tx.drop (497 * k) = r at *
  obtain ⟨a2, ha2⟩ : ∃ a2, (q + (k + 1)) % 18446744073709551616 = a2 := ⟨_, rfl⟩
  rw [ha2] at hat
  have HA2 := hHd ha2
  clear ha2
  generalize (q + k) % 18446744073709551616 = a at *
  by_cases hr : 497 < r.length
  ·have hd1 : decide (¬ 497 < r.length) = false := by simpa using hr
   rw [hd1] at hyy
   have hx1 := ext_upto r 497
   have hx2 := ext_from r 497 r.length rfl
   have hz : decide ((497 : Int) < (r.length : Int)) = true := by simp; omega
   obtain ⟨p, hp⟩ : ∃ p, r.take 497 = p := ⟨_, rfl⟩
   rw [hp] at hx1 hyy
   obtain ⟨fn, tmps, assign, body, hy, hR⟩ := hyy
   have HR := hHd hR
   have HLT := hHd hlt
   clear hd1 hp hR hlt
   gi_wp2
   refine HR.out.mono ?_
   rintro e W3 (⟨rfl, hJ3, hk3⟩ | ⟨rfl, hJx3⟩)
   ·gi_wp2
    go_roundw
    case rel => exact ⟨k + 1, HLT.out.2 hr, by rw [HA2.out], by rw [HDR.out], by rw [fin_take m k hk]; exact hJ3, hnx.trans hk3⟩
    case measure =>
     simp only [strLen]
     show ((r.drop 497).toArray).size < r.toArray.size
     simp
     omega
   ·gi_wp2
    refine bodyPost_ret (results_none rfl _ _ _) rfl ?_
    exact ⟨⟨_, rfl⟩, .inr ⟨_, ⟨k + 1, by omega, (fin_take m k hk).symm⟩, hJx3⟩⟩
  ·have hd1 : decide (¬ 497 < r.length) = true := by simpa using hr
   rw [hd1, List.take_of_length_le (by omega)] at hyy
   have hz : decide ((497 : Int) < (r.length : Int)) = false := by simp; omega
   have hkm : k + 1 = m := by
    have := mt hlt.1 hr
    omega
   obtain ⟨fn, tmps, assign, body, hy, hR⟩ := hyy
   have HR := hHd hR
   have HKM := hHd hkm
   clear hd1 hR hlt hkm
   gi_wp2
   refine HR.out.mono ?_
   rintro e W3 (⟨rfl, hJ3, hk3⟩ | ⟨rfl, hJx3⟩)
   ·gi_wp2
    go_end0
    have hl : (List.finRange m).take (k + 1) = List.finRange m := List.take_of_length_le (by rw [List.length_finRange]; have := HKM.out; omega)
    rw [fin_take m k hk] at hl
    rw [hl] at hJ3
    exact ⟨⟨_, rfl⟩, .inl ⟨_, rfl, hJ3⟩⟩
   ·gi_wp2
    go_end0
    exact ⟨⟨_, rfl⟩, .inr ⟨_, ⟨k + 1, by omega, (fin_take m k hk).symm⟩, hJx3⟩⟩
theorem sheets_stops (F : Fence) (n : Nat) (h20 : F.fn 185) (hro : F.round = none) (hn : 1 <= n) (Bs Bn q m : Nat) (tx : List UInt8) (hmx : tx.length <= 140737488355328) (hm : need tx.length = m) (hq : q < 18446744073709551616)
  (w : World) (hBs : Bs < w.heap.size) (hBn : Bn < w.heap.size) (hcs : w.cell? ⟨Bs, 0, none⟩ = some (.int .u64 q)) (hcn : w.cell? ⟨Bn, 0, none⟩ = some (.string ⟨tx.toArray⟩)) :
  SeqStopsK F n Tryz.prog 185 #[.pointer (some ⟨Bs, 0, none⟩), .pointer (some ⟨Bn, 0, none⟩)] (fun x : Fin m => #[.agg (cells3 (shAt q tx x.1))]) (Kp (fun k => k ≠ Bs /\ k ≠ Bn)) (fun ys => ys = List.finRange m) (fun pre => ∃ k, k <= m /\ pre = (List.finRange m).take k) m w := fun l J Jx W hW hJ _ hY h0 =>
 sheets1_in F n h20 hro hn l Bs Bn q m tx hmx hm hq J Jx (fun k pre w h => hJ pre w (w.drewN k) none h ⟨rfl, rfl, rfl, Nat.le_refl _, fun _ _ _ => rfl⟩ (fun r e => by cases e)) hY W (Nat.lt_of_lt_of_le hBs hW.size) (Nat.lt_of_lt_of_le hBn hW.size) ((hW.cell (p := ⟨Bs, 0, none⟩) hBs).trans hcs) ((hW.cell (p := ⟨Bn, 0, none⟩) hBn).trans hcn) h0
end Go.Proofs.YtepaeliamhjgiaaGreatDoor
namespace Go.Proofs.YtepaeliamhjgiaaGreatDoor
open Go.RowKit
theorem need_any (n : Nat) (w : World) (hn : n <= 140737488355328) :
  Calls Tryz.prog 125 #[.int .i64 n] w fun e w' => e = .returned (.int .i64 (need n : Nat)) /\ w = w' := by
 have e : (need n : Int) = ((n - 1 : Nat) : Int) / 497 + 1 := by unfold need; omega
 rw [e]
 rcases Nat.eq_zero_or_pos n with rfl | hp
 ·go_enter Tryz.func125, Tryz.ntmps125
  go_wp2_with fail
  go_ret
  exact ⟨rfl, rfl⟩
 ·go_enter Tryz.func125, Tryz.ntmps125
  go_wp2_with fail
  go_ret
  have h1 : ((n - 1 : Nat) : Int) = (n : Int) - 1 := by omega
  rw [h1]
  first
  |exact ⟨rfl, rfl⟩
  |refine ⟨?_, rfl⟩
   show Ending.returned (.int .i64 ((max (n : Int) 1 - 1) / 497 + 1)) = _
   rw [show max (n : Int) 1 = (n : Int) by omega]
end Go.Proofs.YtepaeliamhjgiaaGreatDoor
