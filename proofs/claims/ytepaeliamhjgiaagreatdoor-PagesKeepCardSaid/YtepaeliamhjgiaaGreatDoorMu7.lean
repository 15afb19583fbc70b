/- The law of pages, part 7 of 55: DkFull DkAct DkKeepM WlDefs. -/
import Derived.Test.YtepaeliamhjgiaaGreatDoorMu6
import Derived.Test.YtepaeliamhjgiaaGreatDoorMu1
set_option maxHeartbeats 16000000
set_option maxRecDepth 100000
namespace Go.Proofs.YtepaeliamhjgiaaGreatDoor
open Go.RowKit Go.Maps
def fullL (c : UInt8) : List UInt8 := List.replicate 512 c
theorem fullL_length (c : UInt8) : (fullL c).length = 512 := List.length_replicate
def fullAt (c : UInt8) (k : Nat) : List UInt8 := List.replicate k c ++ List.replicate (512 - k) 0
theorem fullAt_get (c : UInt8) (k : Nat) (h : k < 512) : (fullAt c k)[k]? = some 0 := by
 rw [fullAt, List.getElem?_append_right (by simp), List.length_replicate, Nat.sub_self, List.getElem?_replicate_of_lt (by omega)]
theorem fullAt_set (c : UInt8) (k : Nat) (h : k < 512) : (fullAt c k).set k c = fullAt c (k + 1) := by
 rw [fullAt, fullAt, List.set_append_right _ _ (by simp), List.length_replicate, Nat.sub_self]
 obtain ⟨m, hm⟩ : ∃ m, 512 - k = m + 1 := ⟨511 - k, by omega⟩
 rw [hm, show 512 - (k + 1) = m by omega, List.replicate_succ, List.replicate_succ']
 simp
theorem fullAt_end (c : UInt8) : fullAt c 512 = fullL c := by
 rw [fullAt, fullL, Nat.sub_self, List.replicate_zero, List.append_nil]
theorem bcs_set (l : List UInt8) (k : Nat) (c : UInt8) : (bcs l).toArray.setIfInBounds k (.int .u8 c.toNat) = (bcs (l.set k c)).toArray := by
 rw [List.setIfInBounds_toArray]
 congr 1
 simp [bcs, List.map_set]
theorem u8Info : ∃ i, Tryz.prog.info? 5 = some i /\ i.zero = some (.int .u8 0) /\ i.size = 1 /\ i.bytes = 1 := by
 have h : (Tryz.prog.info? 5).map (fun i => (i.zero, i.size, i.bytes)) = some (some (.int .u8 0), 1, 1) := by kernel_rfl
 obtain ⟨i, h1, h2, h3, h4⟩ := info_parts h
 exact ⟨i, h1, h2, h3, h4⟩
theorem full_any (c : UInt8) (w : World) :
  Calls Tryz.prog 32 #[.int .u8 c.toNat] w fun e w' => ∃ g, e = .returned (.slice (some ⟨g, 0, none⟩) 512 512) /\ Box w' g 5 (bcs (fullL c)).toArray /\ w.heap.size <= g /\ Kp (fun _ => False) w w' := by
 obtain ⟨i, i1, i2, i3, i4⟩ := u8Info
 have hmk : (Instr.makeSlice 50 (.int .i64 512) (.int .i64 512)).run Tryz.prog w = .ok (.slice (some ⟨w.heap.size, 0, none⟩) 512 512) (w.alloc (.cells (bcs (fullAt c 0)).toArray 5)) := by
  have := run_make (P := Tryz.prog) w 50 _ i _ Tryz.underlying50 i1 i2 .i64 .i64 512 512 (by decide) (by decide) (by rw [i4]; decide) (by decide)
  have e : madeCells (Value.int .u8 0).cells ((512 : Int).toNat * i.size) = (bcs (fullAt c 0)).toArray := by
   rw [i3]
   have e1 := dmade_rep 1 512 (by decide) (.int .u8 0)
   have e2 : fullAt c 0 = List.replicate 512 0 := by rw [fullAt, List.replicate_zero, List.nil_append]
   rw [e2, bcs_rep]
   exact e1
  rw [e] at this
  exact this
 clear i1 i2 i3 i4
 go_enter Tryz.func32, Tryz.ntmps32
 go_wp2_with fail
 have hb0 := Box.new w 5 (bcs (fullAt c 0)).toArray
 have k0 : Kp (fun _ => False) w (w.alloc (.cells (bcs (fullAt c 0)).toArray 5)) := (Kp.refl _ w).alloc _
 clear hmk
 generalize w.alloc (.cells (bcs (fullAt c 0)).toArray 5) = W at *
 have HB0 := hHd hb0
 have K0 := hHd k0
 clear hb0 k0
 go_loopw [4] (fun i wr => ∃ k : Nat, k <= 512 /\ i = .int .i64 k /\ Box wr w.heap.size 5 (bcs (fullAt c k)).toArray /\ Kp (fun _ => False) w wr)
  (fun i _ => 512 - (intOf i).toNat)
 case atStart => exact ⟨0, Nat.zero_le _, rfl, HB0.out, K0.out⟩
 case round =>
  obtain ⟨k, hk, rfl, hb, hkw⟩ := hrel
  have HB := hHd hb
  have HK := hHd hkw
  by_cases hlt : k < 512
  ·have hc : wr.cell? ⟨w.heap.size, k, none⟩ = some (.int .u8 0) := by
    rw [hb.cell]
    simp [bcs_get, fullAt_get c k hlt]
   have hf := hb.free k
   clear hb hkw
   go_wp2_with fail
   go_roundw
   case rel =>
    refine ⟨k + 1, by omega, by go_num, ?_, HK.out.setCell (.inl (Nat.le_refl _)) _⟩
    have := HB.out.put k (.int .u8 c.toNat)
    rwa [bcs_set, fullAt_set c k hlt] at this
   case measure => simp [intOf]; omega
  ·have hk5 : k = 512 := by omega
   have hge : ¬ ((k : Int) < 512) := by omega
   clear hb hkw
   go_wp2_with fail
   go_ret
   refine ⟨_, rfl, ?_, Nat.le_refl _, HK.out⟩
   have := HB.out
   rwa [hk5, fullAt_end] at this
def NewB (w w' : World) (A : Option Addr) (l : List UInt8) : Prop := ∃ g o cs, A = some ⟨g, o, none⟩ /\ w.heap.size <= g /\ Box w' g 5 cs /\ Rd w' A l
theorem NewB.rd {w w' : World} {A : Option Addr} {l : List UInt8} (h : NewB w w' A l) : Rd w' A l := by
 obtain ⟨g, o, cs, _, _, _, hr⟩ := h
 exact hr
theorem NewB.off {w w' : World} {A : Option Addr} {l : List UInt8} (h : NewB w w' A l) : ∀ ad, A = some ad -> ∀ cs fr, w'.heap[ad.block]? ≠ some (.cells cs 158 fr) := by
 obtain ⟨g, o, cs, rfl, _, hb, _⟩ := h
 rintro ad e cs fr hh
 cases e
 unfold Box at hb
 rw [hb] at hh
 injection hh with hh
 injection hh with _ h2
 exact absurd h2 (by decide)
structure Ac where
 d : Int
 n : Int
 keep : List UInt8
 c : UInt8
 short : Bool
structure Ac.Ok (x : Ac) : Prop where
 d0 : 0 <= x.d
 d1 : x.d < 256
 n0 : -9223372036854775808 <= x.n
 n1 : x.n <= 9223372036854775807
 k1 : x.keep.length <= maxLen
def Ac.cells (x : Ac) : Array Value := #[.int .u8 x.d, .int .i64 x.n, .string ⟨x.keep.toArray⟩, .int .u8 x.c.toNat, .bool x.short]
def Acs (w : World) (B : Nat) (A : Option Addr) (l : List Ac) : Prop :=
 (∀ x ∈ l, x.Ok) /\ (l = [] \/ ∃ b o, A = some ⟨b, o, none⟩ /\ b < B /\ ∀ i x, l[i]? = some x -> ∀ j v, x.cells[j]? = some v -> w.cell? ⟨b, o + i * 5 + j, none⟩ = some v)
theorem Acs.keep {w w' : World} {B : Nat} {A : Option Addr} {l : List Ac} (h : Acs w B A l) (hk : ∀ k, k < B -> w'.heap[k]? = w.heap[k]?) : Acs w' B A l := by
 refine ⟨h.1, ?_⟩
 rcases h.2 with h0 | ⟨b, o, rfl, hb, hc⟩
 ·exact .inl h0
 ·exact .inr ⟨b, o, rfl, hb, fun i x hx j v hv => (World.cell?_of_block (hk b hb)).trans (hc i x hx j v hv)⟩
section
variable {B : Nat} {A : Option Addr} {l : List Ac} {w : World}
end
theorem getD_set_same {α : Type} (l : List α) (k : Nat) (x y : α) (h : k < l.length) : (l.set k x).getD k y = x := by
 simp [List.getD, h]
theorem getD_set_other {α : Type} (l : List α) (k j : Nat) (x y : α) (h : k ≠ j) : (l.set k x).getD j y = l.getD j y := by
 simp [List.getD, h]
theorem getD_snoc {α : Type} (l : List α) (x y : α) (i : Nat) (h : i < l.length) : (l ++ [x]).getD i y = l.getD i y := by
 simp [List.getD, List.getElem?_append_left h]
theorem getD_end {α : Type} (l : List α) (x y : α) : (l ++ [x]).getD l.length y = x := by simp [List.getD]
theorem lastOf_lt (l : List (Nat × List UInt8)) (k i : Nat) (h : lastOf l k = some i) : i < l.length := by
 obtain ⟨b, hb⟩ := lastOf_get l k i h
 exact (List.getElem?_eq_some_iff.1 hb).1
def lastB (on : List (List UInt8)) (l : List (Nat × List UInt8)) (k : Nat) : List UInt8 := match lastOf l k with | some i => (l.getD i (0, [])).2 | none => on.getD k []
theorem lastB_snoc (on : List (List UInt8)) (l : List (Nat × List UInt8)) (x : Nat × List UInt8) (k : Nat) : lastB on (l ++ [x]) k = if x.1 = k then x.2 else lastB on l k := by
 unfold lastB
 rw [lastOf_snoc]
 by_cases e : x.1 = k
 ·rw [if_pos e, if_pos e]
  dsimp only
  rw [getD_end]
 ·rw [if_neg e, if_neg e]
  cases hl : lastOf l k with
  |none => rfl
  |some i =>
   dsimp only
   rw [getD_snoc _ _ _ _ (lastOf_lt l k i hl)]
theorem nowAt_eq (d : Dm) (k : Nat) : d.nowAt k = lastB d.on d.wait k := rfl
theorem settle_all_get (on : List (List UInt8)) (l : List (Nat × List UInt8)) (hl : ∀ x ∈ l, x.1 < on.length) (k : Nat) (hk : k < on.length) : (settleL (fun _ => true) on l).getD k [] = lastB on l k := by
 induction l using snoc_ind with
 |h0 => rfl
 |h1 l x ih =>
  have ih' := ih fun y hy => hl y (by simp [hy])
  have hx := hl x (by simp)
  rw [settleL_snoc, if_pos rfl, lastB_snoc]
  by_cases e : x.1 = k
  ·subst e
   rw [if_pos rfl, getD_set_same _ _ _ _ (by rw [settleL_length]; exact hx)]
  ·rw [if_neg e, getD_set_other _ _ _ _ _ e, ih']
theorem settle_mem (f : Nat -> Bool) (on : List (List UInt8)) (l : List (Nat × List UInt8)) (hl : ∀ x ∈ l, x.1 < on.length) (k : Nat) :
  (settleL f on l).getD k [] = on.getD k [] \/ ∃ x ∈ l, x.1 = k /\ (settleL f on l).getD k [] = x.2 := by
 induction l using snoc_ind with
 |h0 => exact .inl rfl
 |h1 l x ih =>
  have ih' := ih fun y hy => hl y (by simp [hy])
  have hx := hl x (by simp)
  have old : (settleL f on l).getD k [] = on.getD k [] \/ ∃ y ∈ l ++ [x], y.1 = k /\ (settleL f on l).getD k [] = y.2 := by
   rcases ih' with h | ⟨y, hy, h1, h2⟩
   ·exact .inl h
   ·exact .inr ⟨y, by simp [hy], h1, h2⟩
  rw [settleL_snoc]
  split
  ·by_cases e : x.1 = k
   ·right
    exact ⟨x, by simp, e, by rw [<- e, getD_set_same _ _ _ _ (by rw [settleL_length]; exact hx)]⟩
   ·rw [getD_set_other _ _ _ _ _ e]
    exact old
  ·exact old
structure KI (d : Dm) (now : List (List UInt8)) (may : List (List (List UInt8))) : Prop where
 nlen : now.length = d.on.length
 mlen : may.length = d.on.length
 onMay : ∀ k, k < d.on.length -> d.on.getD k [] ∈ may.getD k []
 waitMay : ∀ x ∈ d.wait, x.2 ∈ may.getD x.1 []
 off : d.power = false -> d.wait = []
def KN (d : Dm) (now : List (List UInt8)) : Prop := ∀ k, k < d.on.length -> d.nowAt k = now.getD k []
section
variable {d : Dm} {now : List (List UInt8)} {may : List (List (List UInt8))}
theorem KI.lose (ok : d.ok) (h : KI d now may) (l : List UInt8) : KI (d.lose l) now may := by
 have hlen : (d.lose l).on.length = d.on.length := by simp [Dm.lose, settleL_length]
 refine ⟨by rw [hlen]; exact h.nlen, by rw [hlen]; exact h.mlen, fun k hk => ?_, fun x hx => by simp [Dm.lose] at hx, fun _ => rfl⟩
 rw [hlen] at hk
 show (settleL (bitOf l) d.on d.wait).getD k [] ∈ _
 rcases settle_mem (bitOf l) d.on d.wait ok.at_ k with e | ⟨x, hx, e1, e2⟩
 ·rw [e]; exact h.onMay k hk
 ·rw [e2, <- e1]; exact h.waitMay x hx
theorem KI.flush (ok : d.ok) (h : KI d now may) (hn : KN d now) : KI d.act.all now (now.map fun s => [s]) /\ KN d.act.all now := by
 have hlen : d.act.all.on.length = d.on.length := by simp [Dm.all, Dm.act, settleL_length]
 have hon : ∀ k, k < d.on.length -> d.act.all.on.getD k [] = now.getD k [] := fun k hk => by
  show (settleL (fun _ => true) d.on d.wait).getD k [] = _
  rw [settle_all_get _ _ ok.at_ k hk, <- nowAt_eq]
  exact hn k hk
 refine ⟨⟨by rw [hlen]; exact h.nlen, by rw [hlen]; simpa using h.nlen, fun k hk => ?_, fun x hx => by simp [Dm.all] at hx, fun _ => rfl⟩, fun k hk => ?_⟩
 ·rw [hlen] at hk
  rw [hon k hk]
  have hk2 : k < now.length := by rw [h.nlen]; exact hk
  simp [List.getD, hk2]
 ·rw [hlen] at hk
  rw [nowAt_eq]
  exact hon k hk
theorem KI.push (h : KI d now may) (hn : KN d now) (a : Nat) (l : List UInt8) (ha : a < d.on.length) (hp : d.power = true) :
  KI (d.act.push a l) (now.set a l) (may.set a (may.getD a [] ++ [l])) /\ KN (d.act.push a l) (now.set a l) := by
 refine ⟨⟨by simpa [Dm.push, Dm.act] using h.nlen, by simpa [Dm.push, Dm.act] using h.mlen, fun k hk => ?_, fun x hx => ?_, fun hq => ?_⟩, fun k hk => ?_⟩
 ·have h1 := h.onMay k hk
  by_cases e : a = k
  ·subst e
   rw [getD_set_same _ _ _ _ (by rw [h.mlen]; exact ha)]
   exact List.mem_append_left _ h1
  ·rw [getD_set_other _ _ _ _ _ e]; exact h1
 ·have hx' : x ∈ d.wait ++ [(a, l)] := hx
  rcases List.mem_append.1 hx' with hx | hx
  ·have h1 := h.waitMay x hx
   by_cases e : a = x.1
   ·rw [<- e, getD_set_same _ _ _ _ (by rw [h.mlen]; exact ha)]
    rw [<- e] at h1
    exact List.mem_append_left _ h1
   ·rw [getD_set_other _ _ _ _ _ e]; exact h1
  ·obtain rfl : x = (a, l) := by simpa using hx
   dsimp only
   rw [getD_set_same _ _ _ _ (by rw [h.mlen]; exact ha)]
   simp
 ·have : d.power = false := hq
  rw [hp] at this; cases this
 ·rw [nowAt_eq]
  show lastB d.on (d.wait ++ [(a, l)]) k = _
  rw [lastB_snoc]
  dsimp only
  by_cases e : a = k
  ·subst e
   rw [if_pos rfl, getD_set_same _ _ _ _ (by rw [h.nlen]; exact ha)]
  ·rw [if_neg e, getD_set_other _ _ _ _ _ e]
   exact hn k hk
theorem KI.alike {d' : Dm} (h : KI d now may) (h1 : d'.on = d.on) (h2 : d'.wait = d.wait) (h3 : d'.power = false -> d.power = false) : KI d' now may :=
 ⟨by rw [h1]; exact h.nlen, by rw [h1]; exact h.mlen, fun k hk => by rw [h1] at hk ⊢; exact h.onMay k hk, fun x hx => by rw [h2] at hx; exact h.waitMay x hx, fun hp => by rw [h2]; exact h.off (h3 hp)⟩
theorem KN.alike {d' : Dm} (h : KN d now) (h1 : d'.on = d.on) (h2 : d'.wait = d.wait) : KN d' now := fun k hk => by
 rw [nowAt_eq, h1, h2, <- nowAt_eq]
 rw [h1] at hk
 exact h k hk
end
def nowTo (d : Dm) (now : List (List UInt8)) (j : Nat) : List (List UInt8) := d.on.take j ++ now.drop j
def mayTo (d : Dm) (may : List (List (List UInt8))) (j : Nat) : List (List (List UInt8)) := (d.on.take j).map (fun s => [s]) ++ may.drop j
def nowIf (t : Bool) (d : Dm) (now : List (List UInt8)) (j : Nat) : List (List UInt8) := if t then nowTo d now j else now
def mayIf (t : Bool) (d : Dm) (may : List (List (List UInt8))) (j : Nat) : List (List (List UInt8)) := if t then mayTo d may j else may
section
variable {d : Dm} {now : List (List UInt8)} {may : List (List (List UInt8))}
theorem nowIf_zero (t : Bool) : nowIf t d now 0 = now := by cases t <;> simp [nowIf, nowTo]
theorem mayIf_zero (t : Bool) : mayIf t d may 0 = may := by cases t <;> simp [mayIf, mayTo]
def among (l : List (List UInt8)) (s : List UInt8) (m : Nat) : Bool := (l.take m).any fun x => x == s
end
end Go.Proofs.YtepaeliamhjgiaaGreatDoor
namespace Go.Proofs.YtepaeliamhjgiaaGreatDoor
structure Hd where
 g : Nat
 f : Nat
 n : Nat
 note : List UInt8
def hbody (h : Hd) : List UInt8 := beN 8 h.g ++ beN 8 h.f ++ beN 2 h.n ++ (UInt8.ofNat h.note.length :: h.note) ++ List.replicate (489 - h.note.length) 0
def hsec (h : Hd) : List UInt8 := hbody h ++ beN 4 (crcN (hbody h))
theorem hbody_length (h : Hd) (hn : h.note.length <= 64) : (hbody h).length = 508 := by
 simp [hbody, beN_length]; omega
theorem hsec_length (h : Hd) (hn : h.note.length <= 64) : (hsec h).length = 512 := by
 simp [hsec, hbody_length h hn, beN_length]
def kg (l : List UInt8) : Nat := numN (l.take 8)
def kf (l : List UInt8) : Nat := numN ((l.drop 8).take 8)
def kn (l : List UInt8) : Nat := numN ((l.drop 16).take 2)
def kk (l : List UInt8) : Nat := (l.getD 18 0).toNat
def kt (l : List UInt8) : List UInt8 := (l.drop 19).take (kk l)
def khd (l : List UInt8) : Hd := ⟨kg l, kf l, kn l, kt l⟩
def headS (l : List UInt8) : Option Hd := if l.length = 512 /\ 96 <= kn l /\ kn l <= 512 /\ kk l <= 64 /\ hsec (khd l) = l then some (khd l) else none
structure Hd.ok (h : Hd) : Prop where
 g_ : h.g < 18446744073709551616
 f_ : h.f < 18446744073709551616
 lo : 96 <= h.n
 hi : h.n <= 512
 note_ : h.note.length <= 64
theorem hsec_eq (h : Hd) : ∃ r, hsec h = beN 8 h.g ++ (beN 8 h.f ++ (beN 2 h.n ++ (UInt8.ofNat h.note.length :: (h.note ++ r)))) := by
 unfold hsec
 generalize crcN (hbody h) = c
 exact ⟨List.replicate (489 - h.note.length) 0 ++ beN 4 c, by simp only [hbody, List.append_assoc, List.cons_append]⟩
theorem khd_hsec (h : Hd) (ok : h.ok) : khd (hsec h) = h /\ kk (hsec h) = h.note.length := by
 obtain ⟨r, hr⟩ := hsec_eq h
 have h1 : kg (hsec h) = h.g := by
  unfold kg
  rw [hr, List.take_left' (beN_length 8 _)]
  exact numN_beN 8 _ (by have := ok.g_; simpa using this)
 have h2 : kf (hsec h) = h.f := by
  unfold kf
  rw [hr, List.drop_left' (beN_length 8 _), List.take_left' (beN_length 8 _)]
  exact numN_beN 8 _ (by have := ok.f_; simpa using this)
 have h3 : kn (hsec h) = h.n := by
  unfold kn
  rw [hr, show (16 : Nat) = 8 + 8 by rfl, <- List.drop_drop, List.drop_left' (beN_length 8 _), List.drop_left' (beN_length 8 _), List.take_left' (beN_length 2 _)]
  exact numN_beN 2 _ (by have := ok.hi; omega)
 have hd : (hsec h).drop 18 = UInt8.ofNat h.note.length :: (h.note ++ r) := by
  rw [hr, show (18 : Nat) = 8 + (8 + 2) by rfl, <- List.drop_drop, List.drop_left' (beN_length 8 _), <- List.drop_drop, List.drop_left' (beN_length 8 _), List.drop_left' (beN_length 2 _)]
 have h4 : kk (hsec h) = h.note.length := by
  unfold kk
  have : (hsec h)[18]? = some (UInt8.ofNat h.note.length) := by
   have := congrArg (fun l : List UInt8 => l[0]?) hd
   simpa using this
  rw [List.getD, this]
  have := ok.note_
  simp
  omega
 have h5 : kt (hsec h) = h.note := by
  unfold kt
  rw [h4, show (19 : Nat) = 18 + 1 by rfl, <- List.drop_drop, hd]
  simp
 refine ⟨?_, h4⟩
 unfold khd
 rw [h1, h2, h3, h5]
theorem headS_hsec (h : Hd) (ok : h.ok) : headS (hsec h) = some h := by
 obtain ⟨e, ek⟩ := khd_hsec h ok
 unfold headS
 have en : kn (hsec h) = h.n := congrArg Hd.n e
 rw [e, en, ek, if_pos ⟨hsec_length h ok.note_, ok.lo, ok.hi, ok.note_, rfl⟩]
theorem numN_take_lt (l : List UInt8) (k : Nat) : numN (l.take k) < 256 ^ k := by
 have h1 := numN_lt (l.take k)
 exact Nat.lt_of_lt_of_le h1 (Nat.pow_le_pow_right (by omega) (by simp; omega))
theorem headS_some {l : List UInt8} {h : Hd} (hh : headS l = some h) : l.length = 512 /\ h = khd l /\ h.ok /\ hsec h = l := by
 unfold headS at hh
 split at hh
 ·next c =>
  injection hh with hh
  subst hh
  refine ⟨c.1, rfl, ⟨?_, ?_, c.2.1, c.2.2.1, ?_⟩, c.2.2.2.2⟩
  ·exact Nat.lt_of_lt_of_le (numN_take_lt _ 8) (by decide)
  ·exact Nat.lt_of_lt_of_le (numN_take_lt _ 8) (by decide)
  ·show ((l.drop 19).take (kk l)).length <= 64
   have := c.2.2.2.1
   simp
   omega
 ·cases hh
theorem headS_nil : headS [] = none := by decide
def countS (a b : Option Hd) : Option (Hd × Nat) := match a, b with
 |some x, some y => if x.g < y.g then some (y, 1) else some (x, 0)
 |some x, none => some (x, 0)
 |none, some y => some (y, 1)
 |none, none => none
def sheetF (V : Nat -> List UInt8) (n q : Nat) : Option Sh := match takeS (V (2 + q % n)) with
 |some s => if s.q = q then some s else none
 |none => none
theorem sheetF_q {V : Nat -> List UInt8} {n q : Nat} {s : Sh} (h : sheetF V n q = some s) : s.q = q /\ takeS (V (2 + q % n)) = some s := by
 unfold sheetF at h
 split at h
 ·next s' e =>
  split at h
  ·next e2 => injection h with h; subst h; exact ⟨e2, e⟩
  ·cases h
 ·cases h
theorem takeS_lt {l : List UInt8} {s : Sh} (h : takeS l = some s) : s.q < 18446744073709551616 /\ s.t.length <= 497 := by
 obtain ⟨_, h2, _, rfl⟩ := takeS_some h
 refine ⟨Nat.lt_of_lt_of_le (numN_take_lt _ 8) (by decide), ?_⟩
 show ((l.drop 11).take (tn l)).length <= 497
 simp
 omega
def upS (V : Nat -> List UInt8) (n : Nat) (m i : Nat) : Nat := match takeS (V (2 + i)) with
 |some s => if s.q % n = i /\ m < (s.q + 1) % 18446744073709551616 then (s.q + 1) % 18446744073709551616 else m
 |none => m
def nextF (V : Nat -> List UInt8) (n f : Nat) : Nat := (List.range n).foldl (upS V n) f
def IsNext (F : Nat -> Option Sh) (f r : Nat) : Prop := f <= r /\ (∀ q s, F q = some s -> (q + 1) % 18446744073709551616 <= r) /\ (r = f \/ ∃ q s, F q = some s /\ r = (q + 1) % 18446744073709551616)
theorem IsNext.one {F : Nat -> Option Sh} {f r r' : Nat} (h : IsNext F f r) (h' : IsNext F f r') : r = r' := by
 obtain ⟨a1, a2, a3⟩ := h
 obtain ⟨b1, b2, b3⟩ := h'
 refine Nat.le_antisymm ?_ ?_
 ·rcases a3 with rfl | ⟨q, s, hq, rfl⟩
  ·exact b1
  ·exact b2 q s hq
 ·rcases b3 with rfl | ⟨q, s, hq, rfl⟩
  ·exact a1
  ·exact a2 q s hq
theorem nextF_is (V : Nat -> List UInt8) (n f : Nat) (hn : 0 < n) : IsNext (sheetF V n) f (nextF V n f) := by
 have key : ∀ k, k <= n -> f <= (List.range k).foldl (upS V n) f /\ (∀ q s, q % n < k -> sheetF V n q = some s -> (q + 1) % 18446744073709551616 <= (List.range k).foldl (upS V n) f) /\ ((List.range k).foldl (upS V n) f = f \/ ∃ q s, sheetF V n q = some s /\ (List.range k).foldl (upS V n) f = (q + 1) % 18446744073709551616) := by
  intro k
  induction k with
  |zero => intro _; exact ⟨Nat.le_refl _, fun q s h => by omega, .inl rfl⟩
  |succ k ih =>
   intro hk
   obtain ⟨i1, i2, i3⟩ := ih (by omega)
   rw [List.range_succ, List.foldl_append]
   simp only [List.foldl_cons, List.foldl_nil]
   generalize (List.range k).foldl (upS V n) f = m at *
   rcases ht : takeS (V (2 + k)) with _ | s
   ·have e : upS V n m k = m := by simp [upS, ht]
    rw [e]
    refine ⟨i1, fun q s hq hs => ?_, i3⟩
    rcases Nat.lt_or_ge (q % n) k with hlt | hge
    ·exact i2 q s hlt hs
    ·have hqk : q % n = k := by omega
     have := (sheetF_q hs).2
     rw [hqk, ht] at this
     cases this
   ·have e : upS V n m k = if s.q % n = k /\ m < (s.q + 1) % 18446744073709551616 then (s.q + 1) % 18446744073709551616 else m := by simp [upS, ht]
    rw [e]
    have old : ∀ q s', q % n < k + 1 -> sheetF V n q = some s' -> (q + 1) % 18446744073709551616 <= m \/ (q = s.q /\ s.q % n = k) := fun q s' hq hs => by
     rcases Nat.lt_or_ge (q % n) k with hlt | hge
     ·exact .inl (i2 q s' hlt hs)
     ·have hqk : q % n = k := by omega
      obtain ⟨h1, h2⟩ := sheetF_q hs
      rw [hqk, ht] at h2
      injection h2 with h2
      subst h2
      exact .inr ⟨h1.symm, by rw [h1]; exact hqk⟩
    split
    ·next c =>
     refine ⟨by omega, fun q s' hq hs => ?_, .inr ⟨s.q, s, ?_, rfl⟩⟩
     ·rcases old q s' hq hs with h | ⟨h, _⟩
      ·omega
      ·rw [h]; exact Nat.le_refl _
     ·unfold sheetF
      rw [c.1, ht]
      simp
    ·next c =>
     refine ⟨i1, fun q s' hq hs => ?_, i3⟩
     rcases old q s' hq hs with h | ⟨h, h2⟩
     ·exact h
     ·rw [h]
      have : ¬ m < (s.q + 1) % 18446744073709551616 := fun hh => c ⟨h2, hh⟩
      omega
 obtain ⟨h1, h2, h3⟩ := key n (Nat.le_refl _)
 exact ⟨h1, fun q s hs => h2 q s (Nat.mod_lt _ hn) hs, h3⟩
def parse : List UInt8 -> List Sh -> List (List UInt8)
 |_, [] => []
 |t, s :: r => if s.last then (t ++ s.t) :: parse [] r else parse (t ++ s.t) r
def remT : List UInt8 -> List Sh -> List UInt8
 |t, [] => t
 |t, s :: r => if s.last then remT [] r else remT (t ++ s.t) r
theorem parse_append (l m : List Sh) : ∀ t, parse t (l ++ m) = parse t l ++ parse (remT t l) m := by
 induction l with
 |nil => intro t; rfl
 |cons s r ih => intro t; simp only [List.cons_append, parse, remT]; split <;> simp [ih]
theorem remT_append (l m : List Sh) : ∀ t, remT t (l ++ m) = remT (remT t l) m := by
 induction l with
 |nil => intro t; rfl
 |cons s r ih => intro t; simp only [List.cons_append, remT]; split <;> exact ih _
def runF (F : Nat -> Option Sh) : Nat -> Nat -> List Sh
 |0, _ => []
 |k + 1, q => match F q with
  |some s => s :: runF F k (q + 1)
  |none => []
theorem runF_get (F : Nat -> Option Sh) : ∀ k q i s, (runF F k q)[i]? = some s -> F (q + i) = some s
 |0, q, i, s, h => by simp [runF] at h
 |k + 1, q, i, s, h => by
  unfold runF at h
  cases hq : F q with
  |none => rw [hq] at h; simp at h
  |some s' =>
   rw [hq] at h
   cases i with
   |zero => simp at h; subst h; simpa using hq
   |succ i =>
    have := runF_get F k (q + 1) i s (by simpa using h)
    rw [show q + (i + 1) = q + 1 + i by omega]
    exact this
theorem runF_of (F : Nat -> Option Sh) (ss : List Sh) : ∀ k q, ss.length < k -> (∀ i s, ss[i]? = some s -> F (q + i) = some s) -> F (q + ss.length) = none -> runF F k q = ss := by
 induction ss with
 |nil =>
  intro k q hk _ h2
  cases k with
  |zero => omega
  |succ k => simp only [List.length_nil, Nat.add_zero] at h2; simp [runF, h2]
 |cons s r ih =>
  intro k q hk h1 h2
  cases k with
  |zero => simp at hk
  |succ k =>
   have h0 := h1 0 s rfl
   simp only [Nat.add_zero] at h0
   unfold runF
   rw [h0]
   dsimp only
   rw [ih k (q + 1) (by simp at hk; omega) (fun i s' hi => by
    have := h1 (i + 1) s' (by simpa using hi)
    rwa [show q + 1 + i = q + (i + 1) by omega]) (by
    rwa [show q + 1 + r.length = q + (s :: r).length by simp; omega])]
def textsF (V : Nat -> List UInt8) (n f : Nat) : List (List UInt8) := parse [] (runF (sheetF V n) (n + 1) f)
section
variable (q : Nat) (tx : List UInt8)
theorem shAt_last (i : Nat) (h : i + 1 = need tx.length) : (shAt q tx i).last = true := by simp [shAt, h]
theorem shAt_not (i : Nat) (h : i + 1 < need tx.length) : (shAt q tx i).last = false := by simp [shAt]; omega
theorem rem_part : ∀ k, k < need tx.length -> parse [] ((cutL q tx).take k) = [] /\ remT [] ((cutL q tx).take k) = tx.take (497 * k)
 |0, _ => by simp [parse, remT]
 |k + 1, h => by
  obtain ⟨h1, h2⟩ := rem_part k (by omega)
  have e := cutL_take q tx k (by omega)
  rw [e, parse_append, remT_append, h1, h2]
  have hl := shAt_not q tx k h
  refine ⟨by simp [parse, hl], ?_⟩
  simp only [remT, hl, Bool.false_eq_true, if_false]
  show tx.take (497 * k) ++ (tx.drop (497 * k)).take 497 = _
  rw [Nat.mul_succ, List.take_add]
theorem rem_whole : parse [] (cutL q tx) = [tx] /\ remT [] (cutL q tx) = [] := by
 have hp := need_pos tx.length
 obtain ⟨h1, h2⟩ := rem_part q tx (need tx.length - 1) (by omega)
 have e := cutL_take q tx (need tx.length - 1) (by omega)
 have ht : (cutL q tx).take (need tx.length - 1 + 1) = cutL q tx := List.take_of_length_le (by rw [cutL_length]; omega)
 rw [ht] at e
 have hl := shAt_last q tx (need tx.length - 1) (by omega)
 have hm : tx.take (497 * (need tx.length - 1)) ++ (shAt q tx (need tx.length - 1)).t = tx := by
  show tx.take (497 * (need tx.length - 1)) ++ (tx.drop (497 * (need tx.length - 1))).take 497 = tx
  rw [<- List.take_add]
  exact List.take_of_length_le (by unfold need; omega)
 rw [e, parse_append, remT_append, h1, h2]
 refine ⟨?_, by simp [remT, hl]⟩
 simp only [parse, hl, if_true, List.nil_append, hm]
end
structure Lm where
 h : Hd
 a : Nat
 next : Nat
 left : Nat
 dead : Bool
def Dm.heads (d : Dm) : Option (Hd × Nat) := countS (headS (d.nowAt 0)) (headS (d.nowAt 1))
def Dm.putHead (d : Dm) (a : Nat) (h : Hd) : Dm × Int := match d.writeS a (hsec h) with
 |(d1, e) => if e = 0 then d1.flushS else (d1, e)
def Dm.putAll (n : Nat) : List Sh -> Dm -> Dm × Int
 |[], d => d.flushS
 |s :: r, d => match d.writeS ((2 + s.q % n : Nat) : Int) (secL s.q s.last s.t) with
  |(d1, e) => if e = 0 then Dm.putAll n r d1 else (d1, e)
def Dm.nextH (d : Dm) (f : Nat) (n : Nat) (note : List UInt8) : Hd × Nat := match d.heads with
 |some (h, a) => (⟨(h.g + 1) % 18446744073709551616, f, n, note⟩, 1 - a)
 |none => (⟨1, f, n, note⟩, 1)
def mayFormat (d : Dm) (n : Int) (note : List UInt8) : Bool := decide (96 <= n) && decide (n <= 512) && decide (2 + n <= d.on.length) && decide (note.length <= 64)
def Dm.formatS (d : Dm) (n : Int) (note : List UInt8) : Dm × Int :=
 if !mayFormat d n note then (d, 2) else if !d.power then (d, 4) else d.putHead (d.nextH (nextF d.nowAt n.toNat 1) n.toNat note).2 (d.nextH (nextF d.nowAt n.toNat 1) n.toNat note).1
def Dm.openS (d : Dm) : Option (Lm × List (List UInt8)) × Int :=
 if !d.power then (none, 4) else match d.heads with
  |none => (none, 12)
  |some (h, a) => if 2 + h.n <= d.on.length then (some (⟨h, a, nextF d.nowAt h.n h.f, 0, false⟩, textsF d.nowAt h.n h.f), 0) else (none, 12)
def Lm.commitS (l : Lm) (d : Dm) (t : List UInt8) : Lm × Dm × Int :=
 if l.dead then (l, d, 4) else if l.h.n < need t.length then (l, d, 6) else if l.left < need t.length then (l, d, 5) else
  match Dm.putAll l.h.n (cutL l.next t) d with
  |(d1, e) => if e = 0 then ({ l with next := (l.next + need t.length) % 18446744073709551616, left := l.left - need t.length }, d1, 0) else ({ l with dead := e == 4 }, d1, e)
def Lm.newHead (l : Lm) : Hd := ⟨(l.h.g + 1) % 18446744073709551616, l.next, l.h.n, l.h.note⟩
def Lm.trimS (l : Lm) (d : Dm) : Lm × Dm × Int :=
 if l.dead then (l, d, 4) else match d.putHead (1 - l.a) l.newHead with
  |(d1, e) => if e = 0 then ({ l with h := l.newHead, a := 1 - l.a, left := l.h.n }, d1, 0) else ({ l with dead := e == 4 }, d1, e)
end Go.Proofs.YtepaeliamhjgiaaGreatDoor
