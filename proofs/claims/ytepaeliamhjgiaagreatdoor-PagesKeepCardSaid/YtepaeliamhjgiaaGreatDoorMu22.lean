/- The law of pages, part 22 of 55: PgMath PgStep. -/
import Derived.Test.YtepaeliamhjgiaaGreatDoorMu1
import Derived.Test.YtepaeliamhjgiaaGreatDoorMu8
set_option maxHeartbeats 16000000
set_option maxRecDepth 100000
namespace Go.Proofs.YtepaeliamhjgiaaGreatDoor
abbrev Bm := Nat -> Option (List UInt8)
def bnone : Bm := fun _ => none
def Bm.put (m : Bm) (i : Nat) (p : List UInt8) : Bm := fun k => if k = i then some p else m k
def Bm.over (m m' : Bm) : Bm := fun k => (m' k).or (m k)
structure Bm.Ok (m : Bm) (n : Nat) : Prop where
 in_ : ∀ i p, m i = some p -> i < n
 long : ∀ i p, m i = some p -> p.length = 512
def Bm.keys (m : Bm) (n : Nat) : List Nat := (List.range n).filter fun i => (m i).isSome
def Bm.at_ (m : Bm) (i : Nat) : List UInt8 := (m i).getD []
def pgTx (m : Bm) (ks : List Nat) : List UInt8 := ks.flatMap fun i => beN 2 i ++ m.at_ i
def Bm.text (m : Bm) (n : Nat) : List UInt8 := pgTx m (m.keys n)
section
variable {m m' : Bm} {n : Nat}
theorem bnone_ok (n : Nat) : Bm.Ok bnone n := ⟨(fun _ _ h => by cases h), (fun _ _ h => by cases h)⟩
theorem Bm.Ok.put (h : m.Ok n) {i : Nat} {p : List UInt8} (hi : i < n) (hp : p.length = 512) : (m.put i p).Ok n := by
 refine ⟨fun k q hk => ?_, fun k q hk => ?_⟩
 ·unfold Bm.put at hk
  split at hk
  ·next e => omega
  ·exact h.in_ k q hk
 ·unfold Bm.put at hk
  split at hk
  ·injection hk with hk; rw [<- hk]; exact hp
  ·exact h.long k q hk
theorem Bm.Ok.over (h : m.Ok n) (h' : m'.Ok n) : (m.over m').Ok n := by
 refine ⟨fun k q hk => ?_, fun k q hk => ?_⟩
 ·unfold Bm.over at hk
  cases e : m' k with
  |none => rw [e] at hk; exact h.in_ k q hk
  |some x => exact h'.in_ k x e
 ·unfold Bm.over at hk
  cases e : m' k with
  |none => rw [e] at hk; exact h.long k q hk
  |some x => rw [e] at hk; injection hk with hk; rw [<- hk]; exact h'.long k x e
theorem mem_keys (i : Nat) : i ∈ m.keys n ↔ i < n /\ (m i).isSome = true := by simp [Bm.keys]
theorem keys_at {i : Nat} (h : i ∈ m.keys n) : ∃ p, m i = some p /\ m.at_ i = p := by
 have := (mem_keys i).1 h
 cases e : m i with
 |none => rw [e] at this; exact absurd this.2 (by decide)
 |some p => exact ⟨p, rfl, by simp [Bm.at_, e]⟩
theorem keys_long (h : m.Ok n) {i : Nat} (hi : i ∈ m.keys n) : i < n /\ (m.at_ i).length = 512 := by
 obtain ⟨p, h1, h2⟩ := keys_at hi
 exact ⟨h.in_ i p h1, by rw [h2]; exact h.long i p h1⟩
theorem keys_le (m : Bm) (n : Nat) : (m.keys n).length <= n := by
 have := List.length_filter_le (fun i => (m i).isSome) (List.range n)
 simpa [Bm.keys] using this
theorem pgTx_length {ks : List Nat} (h : ∀ i ∈ ks, (m.at_ i).length = 512) : (pgTx m ks).length = 514 * ks.length := by
 induction ks with
 |nil => rfl
 |cons i r ih =>
  have := ih fun k hk => h k (by simp [hk])
  have h1 := h i (by simp)
  unfold pgTx at *
  simp only [List.flatMap_cons, List.length_append, beN_length, h1, this, List.length_cons]
  omega
end
theorem wait_writeS (d : Dm) (a : Int) (l : List UInt8) : (d.writeS a l).1.wait.length <= d.wait.length + 1 := by
 unfold Dm.writeS
 split
 ·exact Nat.le_succ _
 ·split
  ·exact Nat.le_succ _
  ·split
   ·simp [Dm.lose]
   ·simp [Dm.push, Dm.act]
def Dm.putPg (o : Nat) (m : Bm) : List Nat -> Dm -> Dm × Int
 |[], d => (d, 0)
 |i :: r, d => match d.writeS ((o + i : Nat) : Int) (m.at_ i) with
  |(d1, e) => if e = 0 then Dm.putPg o m r d1 else (d1, e)
def Dm.putBs (o n : Nat) : List Bm -> Dm -> Dm × Int
 |[], d => (d, 0)
 |m :: r, d => match Dm.putPg o m (m.keys n) d with
  |(d1, e) => if e = 0 then Dm.putBs o n r d1 else (d1, e)
def wrP (o : Nat) (m : Bm) (ks : List Nat) : List (Nat × List UInt8) := ks.map fun i => (o + i, m.at_ i)
def wrB (o n : Nat) (bs : List Bm) : List (Nat × List UInt8) := bs.flatMap fun m => wrP o m (m.keys n)
structure Wr (d d' : Dm) (e : Int) (W : List (Nat × List UInt8)) : Prop where
 is : (e = 0 /\ d'.on = d.on /\ d'.wait = d.wait ++ W /\ d'.power = true /\ (d.lit = false -> d'.lit = false)) \/
  (e = 4 /\ d.lit = true /\ (∃ k f, k <= W.length /\ d'.on = settleL f d.on (d.wait ++ W.take k)) /\ Off d')
theorem Wr.nil {d : Dm} (hp : d.power = true) : Wr d d 0 [] := ⟨.inl ⟨rfl, rfl, by simp, hp, id⟩⟩
theorem wr_one {d : Dm} (hp : d.power = true) (a : Nat) (l : List UInt8) (ha : a < d.on.length) (hl : l.length = 512) : Wr d (d.writeS (a : Int) l).1 (d.writeS (a : Int) l).2 [(a, l)] := by
 have hs : secB d (a : Int) = true := by simp [secB]; omega
 have h5 : (l.length == 512) = true := by simp [hl]
 rcases ho : d.out with _ | _
 ·have e : d.writeS (a : Int) l = (d.act.push a l, 0) := by
   simp only [Dm.writeS, hp, hs, h5, ho]
   rfl
  rw [e]
  exact ⟨.inl ⟨rfl, rfl, rfl, hp, id⟩⟩
 ·have e : d.writeS (a : Int) l = (d.lose d.keep, 4) := by
   simp only [Dm.writeS, hp, hs, h5, ho]
   rfl
  rw [e]
  refine ⟨.inr ⟨rfl, by simp only [Dm.out, Bool.and_eq_true] at ho; exact ho.1, ⟨0, bitOf d.keep, Nat.zero_le _, by simp [Dm.lose]⟩, lose_off _ _⟩⟩
theorem Wr.on {d d' : Dm} {e : Int} {W : List (Nat × List UInt8)} (h : Wr d d' e W) : d'.on.length = d.on.length := by
 rcases h.is with ⟨_, h1, _⟩ | ⟨_, _, ⟨k, f, _, h1⟩, _⟩
 ·rw [h1]
 ·rw [h1, settleL_length]
theorem Wr.cons {d d1 d2 : Dm} {e1 e2 : Int} {W1 W2 : List (Nat × List UInt8)} (h1 : Wr d d1 e1 W1) (h2 : e1 = 0 -> Wr d1 d2 e2 W2) : Wr d (if e1 = 0 then (d2, e2) else (d1, e1)).1 (if e1 = 0 then (d2, e2) else (d1, e1)).2 (W1 ++ W2) := by
 rcases h1.is with ⟨rfl, a1, a2, a3, a4⟩ | ⟨rfl, a1, ⟨k, f, a2, a3⟩, a4⟩
 ·rw [if_pos rfl]
  rcases (h2 rfl).is with ⟨rfl, b1, b2, b3, b4⟩ | ⟨rfl, b1, ⟨k, f, b2, b3⟩, b4⟩
  ·exact ⟨.inl ⟨rfl, by rw [b1, a1], by rw [b2, a2, List.append_assoc], b3, fun h => b4 (a4 h)⟩⟩
  ·refine ⟨.inr ⟨rfl, ?_, ⟨W1.length + k, f, by simp; omega, ?_⟩, b4⟩⟩
   ·cases hl : d.lit with
    |true => rfl
    |false => rw [a4 hl] at b1; cases b1
   ·rw [b3, a1, a2, List.append_assoc, List.take_append]
    simp [List.take_of_length_le]
 ·rw [if_neg (by decide)]
  refine ⟨.inr ⟨rfl, a1, ⟨k, f, by simp; omega, ?_⟩, a4⟩⟩
  rw [a3, List.take_append_of_le_length a2]
theorem putPg_wr (o : Nat) (m : Bm) : ∀ (ks : List Nat) (d : Dm), d.power = true -> (∀ i ∈ ks, o + i < d.on.length /\ (m.at_ i).length = 512) -> Wr d (Dm.putPg o m ks d).1 (Dm.putPg o m ks d).2 (wrP o m ks)
 |[], d, hp, _ => Wr.nil hp
 |i :: r, d, hp, h => by
  have h1 := wr_one hp (o + i) (m.at_ i) (h i (by simp)).1 (h i (by simp)).2
  have e : Dm.putPg o m (i :: r) d = if (d.writeS ((o + i : Nat) : Int) (m.at_ i)).2 = 0 then ((Dm.putPg o m r (d.writeS ((o + i : Nat) : Int) (m.at_ i)).1).1, (Dm.putPg o m r (d.writeS ((o + i : Nat) : Int) (m.at_ i)).1).2) else ((d.writeS ((o + i : Nat) : Int) (m.at_ i)).1, (d.writeS ((o + i : Nat) : Int) (m.at_ i)).2) := rfl
  rw [e]
  refine h1.cons (W2 := wrP o m r) fun h0 => ?_
  have hp1 : (d.writeS ((o + i : Nat) : Int) (m.at_ i)).1.power = true := by
   rcases h1.is with ⟨_, _, _, h2, _⟩ | ⟨h2, _⟩
   ·exact h2
   ·rw [h0] at h2; cases h2
  exact putPg_wr o m r _ hp1 fun k hk => by rw [h1.on]; exact h k (by simp [hk])
theorem putBs_wr (o n : Nat) : ∀ (bs : List Bm) (d : Dm), d.power = true -> (∀ m ∈ bs, m.Ok n) -> o + n <= d.on.length -> Wr d (Dm.putBs o n bs d).1 (Dm.putBs o n bs d).2 (wrB o n bs)
 |[], d, hp, _, _ => Wr.nil hp
 |m :: r, d, hp, h, hl => by
  have hm := h m (by simp)
  have h1 := putPg_wr o m (m.keys n) d hp fun i hi => ⟨by have := (keys_long hm hi).1; omega, (keys_long hm hi).2⟩
  have e : Dm.putBs o n (m :: r) d = if (Dm.putPg o m (m.keys n) d).2 = 0 then ((Dm.putBs o n r (Dm.putPg o m (m.keys n) d).1).1, (Dm.putBs o n r (Dm.putPg o m (m.keys n) d).1).2) else ((Dm.putPg o m (m.keys n) d).1, (Dm.putPg o m (m.keys n) d).2) := rfl
  rw [e]
  refine h1.cons (W2 := wrB o n r) fun h0 => ?_
  have hp1 : (Dm.putPg o m (m.keys n) d).1.power = true := by
   rcases h1.is with ⟨_, _, _, h2, _⟩ | ⟨h2, _⟩
   ·exact h2
   ·rw [h0] at h2; cases h2
  exact putBs_wr o n r _ hp1 (fun k hk => h k (by simp [hk])) (by rw [h1.on]; exact hl)
structure Fl (d d' : Dm) (e : Int) (W : List (Nat × List UInt8)) : Prop where
 is : (e = 0 /\ d'.on = settleL (fun _ => true) d.on (d.wait ++ W) /\ Up d' /\ (d.lit = false -> d'.lit = false)) \/
  (e = 4 /\ d.lit = true /\ (∃ k f, k <= W.length /\ d'.on = settleL f d.on (d.wait ++ W.take k)) /\ Off d')
theorem Wr.flush {d d1 : Dm} {e1 : Int} {W : List (Nat × List UInt8)} (h : Wr d d1 e1 W) : Fl d (if e1 = 0 then d1.flushS else (d1, e1)).1 (if e1 = 0 then d1.flushS else (d1, e1)).2 W := by
 rcases h.is with ⟨rfl, a1, a2, a3, a4⟩ | ⟨rfl, a1, a2, a3⟩
 ·rw [if_pos rfl]
  have e : d1.flushS = if d1.out then (d1.lose d1.keep, 4) else (d1.act.all, 0) := by simp [Dm.flushS, a3]
  rw [e]
  rcases ho : d1.out with _ | _
  ·refine ⟨.inl ⟨rfl, ?_, ⟨a3, rfl⟩, a4⟩⟩
   show settleL (fun _ => true) d1.on d1.wait = _
   rw [a1, a2]
  ·refine ⟨.inr ⟨rfl, ?_, ⟨W.length, bitOf d1.keep, Nat.le_refl _, ?_⟩, lose_off _ _⟩⟩
   ·simp only [Dm.out, Bool.and_eq_true] at ho
    cases hl : d.lit with
    |true => rfl
    |false => rw [a4 hl] at ho; exact absurd ho.1 (by decide)
   ·show settleL (bitOf d1.keep) d1.on d1.wait = _
    rw [a1, a2, List.take_length]
 ·rw [if_neg (by decide)]
  exact ⟨.inr ⟨rfl, a1, a2, a3⟩⟩
def overs (bs : List Bm) : Bm := bs.foldl Bm.over bnone
theorem overs_snoc (bs : List Bm) (m : Bm) : overs (bs ++ [m]) = (overs bs).over m := by simp [overs]
theorem overs_ok {n : Nat} (bs : List Bm) (h : ∀ m ∈ bs, m.Ok n) : (overs bs).Ok n := by
 induction bs using snoc_ind with
 |h0 => exact bnone_ok n
 |h1 l x ih => rw [overs_snoc]; exact (ih fun m hm => h m (by simp [hm])).over (h x (by simp))
theorem wrP_mem {o : Nat} {m : Bm} {ks : List Nat} {x : Nat × List UInt8} (h : x ∈ wrP o m ks) : ∃ i ∈ ks, x = (o + i, m.at_ i) := by
 obtain ⟨i, hi, rfl⟩ := List.mem_map.1 h
 exact ⟨i, hi, rfl⟩
theorem wrB_mem {o n : Nat} {bs : List Bm} {x : Nat × List UInt8} (hx : x ∈ wrB o n bs) : ∃ m ∈ bs, ∃ i ∈ m.keys n, x = (o + i, m.at_ i) := by
 obtain ⟨m, hm, h⟩ := List.mem_flatMap.1 hx
 obtain ⟨i, hi, e⟩ := wrP_mem h
 exact ⟨m, hm, i, hi, e⟩
theorem overs_some {bs : List Bm} {m : Bm} {i : Nat} (hm : m ∈ bs) (hi : (m i).isSome = true) : (overs bs i).isSome = true := by
 induction bs using snoc_ind with
 |h0 => simp at hm
 |h1 l x ih =>
  rw [overs_snoc]
  unfold Bm.over
  rcases List.mem_append.1 hm with h | h
  ·have := ih h
   cases hx : x i with
   |none => simpa using this
   |some p => rfl
  ·obtain rfl : m = x := by simpa using h
   cases hx : m i with
   |none => rw [hx] at hi; cases hi
   |some p => rfl
theorem lastB_wrP (on : List (List UInt8)) (l : List (Nat × List UInt8)) (o n : Nat) (m : Bm) (hm : m.Ok n) (i : Nat) : lastB on (l ++ wrP o m (m.keys n)) (o + i) = (m i).getD (lastB on l (o + i)) := by
 have key : ∀ ks : List Nat, (∀ k ∈ ks, (m k).isSome = true) -> lastB on (l ++ wrP o m ks) (o + i) = if i ∈ ks then m.at_ i else lastB on l (o + i) := by
  intro ks
  induction ks using snoc_ind with
  |h0 => intro _; simp [wrP]
  |h1 ks x ih =>
   intro h
   have ih := ih fun k hk => h k (by simp [hk])
   have e : l ++ wrP o m (ks ++ [x]) = (l ++ wrP o m ks) ++ [(o + x, m.at_ x)] := by simp [wrP]
   rw [e, lastB_snoc, ih]
   by_cases hx : x = i
   ·subst hx
    rw [if_pos rfl, if_pos (by simp)]
   ·rw [if_neg (by omega)]
    by_cases hi : i ∈ ks
    ·rw [if_pos hi, if_pos (by simp [hi])]
    ·rw [if_neg hi, if_neg (by simp [hi, Ne.symm hx])]
 rw [key _ fun k hk => ((mem_keys k).1 hk).2]
 cases e : m i with
 |none => rw [if_neg (by rw [mem_keys, e]; simp)]; rfl
 |some p => rw [if_pos (by rw [mem_keys, e]; exact ⟨hm.in_ i p e, rfl⟩)]; simp [Bm.at_, e]
theorem lastB_wrB (on : List (List UInt8)) (o n : Nat) (i : Nat) (bs : List Bm) (h : ∀ m ∈ bs, m.Ok n) : lastB on (wrB o n bs) (o + i) = (overs bs i).getD (on.getD (o + i) []) := by
 induction bs using snoc_ind with
 |h0 => rfl
 |h1 l x ih =>
  have e : wrB o n (l ++ [x]) = wrB o n l ++ wrP o x (x.keys n) := by simp [wrB]
  rw [e, lastB_wrP _ _ _ _ _ (h x (by simp)), ih fun m hm => h m (by simp [hm]), overs_snoc]
  unfold Bm.over
  cases x i <;> rfl
theorem some_wrB {o n : Nat} {bs : List Bm} (h : ∀ m ∈ bs, m.Ok n) (f : Nat -> Bool) (on : List (List UInt8)) (hl : o + n <= on.length) (k : Nat) :
  (∀ a, a < o -> onV (settleL f on ((wrB o n bs).take k)) a = onV on a) /\ (∀ i, overs bs i = none -> onV (settleL f on ((wrB o n bs).take k)) (o + i) = onV on (o + i)) := by
 have hin : ∀ x ∈ (wrB o n bs).take k, x.1 < on.length := fun x hx => by
  obtain ⟨m, hm, i, hi, rfl⟩ := wrB_mem (List.mem_of_mem_take hx)
  have := (keys_long (h m hm) hi).1
  show o + i < on.length
  omega
 refine ⟨fun a ha => ?_, fun i hi => ?_⟩
 ·rcases settle_mem f on _ hin a with e | ⟨x, hx, e, _⟩
  ·exact e
  ·obtain ⟨m, hm, j, hj, rfl⟩ := wrB_mem (List.mem_of_mem_take hx)
   have : o + j = a := e
   omega
 ·rcases settle_mem f on _ hin (o + i) with e | ⟨x, hx, e, _⟩
  ·exact e
  ·obtain ⟨m, hm, j, hj, rfl⟩ := wrB_mem (List.mem_of_mem_take hx)
   have e : o + j = o + i := e
   obtain rfl : j = i := by omega
   have := overs_some hm ((mem_keys j).1 hj).2
   rw [hi] at this
   cases this
theorem all_wrB {o n : Nat} {bs : List Bm} (h : ∀ m ∈ bs, m.Ok n) (on : List (List UInt8)) (hl : o + n <= on.length) :
  (∀ a, a < o -> onV (settleL (fun _ => true) on (wrB o n bs)) a = onV on a) /\ (∀ i, i < n -> onV (settleL (fun _ => true) on (wrB o n bs)) (o + i) = (overs bs i).getD (onV on (o + i))) := by
 have hin : ∀ x ∈ wrB o n bs, x.1 < on.length := fun x hx => by
  obtain ⟨m, hm, i, hi, rfl⟩ := wrB_mem hx
  have := (keys_long (h m hm) hi).1
  show o + i < on.length
  omega
 refine ⟨fun a ha => ?_, fun i hi => ?_⟩
 ·have := (some_wrB h (fun _ => true) on hl (wrB o n bs).length).1 a ha
  rwa [List.take_length] at this
 ·have := settle_all_get on _ hin (o + i) (by omega)
  rw [lastB_wrB on o n i bs h] at this
  exact this
structure Wn (on : List (List UInt8)) (u : List (List UInt8)) (N L : Nat) (hn : List UInt8) : Prop where
 wc : Wc on u N
 hd : ∃ h a, countS (headS (onV on 0)) (headS (onV on 1)) = some (h, a) /\ h.n = L /\ h.note = hn
theorem sheetF_far {on on' : List (List UInt8)} {n : Nat} (hn : 0 < n) (hs : ∀ a, a < 2 + n -> onV on' a = onV on a) : sheetF (onV on') n = sheetF (onV on) n := by
 funext q
 unfold sheetF
 rw [hs (2 + q % n) (by have := Nat.mod_lt q hn; omega)]
theorem textsF_far {on on' : List (List UInt8)} {n : Nat} (hn : 0 < n) (hs : ∀ a, a < 2 + n -> onV on' a = onV on a) (f : Nat) : textsF (onV on') n f = textsF (onV on) n f := by
 unfold textsF
 rw [sheetF_far hn hs]
section
variable {on on' : List (List UInt8)} {u : List (List UInt8)} {N L : Nat} {hn : List UInt8} {l : Lm} {ss : List Sh}
theorem Wn.far (h : Wn on u N L hn) (hl : on'.length = on.length) (hs : ∀ a, a < 2 + L -> onV on' a = onV on a) : Wn on' u N L hn := by
 obtain ⟨x, a, h1, h2, h3, h4, h5, h6, h7⟩ := h.wc.out
 obtain ⟨y, b, g1, g2, g3⟩ := h.hd
 rw [h3] at g1
 injection g1 with g1
 injection g1 with e1 e2
 subst e1
 have hlo := h2.lo
 have e0 := hs 0 (by omega)
 have e1 := hs 1 (by omega)
 rw [<- g2] at hs
 have hq := sheetF_far (by omega) hs
 refine ⟨⟨x, a, by omega, h2, by rw [e0, e1]; exact h3, h4, h5, by rw [hq]; exact h6, by rw [textsF_far (by omega) hs]; exact h7⟩, ⟨x, a, by rw [e0, e1]; exact h3, g2, g3⟩⟩
theorem Wn.mono {N' : Nat} (h : Wn on u N L hn) (hN : N <= N') : Wn on u N' L hn := ⟨h.wc.mono hN, h.hd⟩
theorem Wo.far (h : Wo on l N) (hl : on'.length = on.length) (hs : ∀ a, a < 2 + l.h.n -> onV on' a = onV on a) : Wo on' l N := by
 have hlo := h.hok.lo
 refine ⟨by rw [hl]; exact h.len, h.hok, by rw [hs 0 (by omega), hs 1 (by omega)]; exact h.heads, h.gN, h.first, h.nextN, by rw [sheetF_far (by omega) hs]; exact h.off⟩
theorem Wi.far (h : Wi on l ss N) (hl : on'.length = on.length) (hs : ∀ a, a < 2 + l.h.n -> onV on' a = onV on a) : Wi on' l ss N := by
 have hlo := h.o.hok.lo
 exact ⟨h.o.far hl hs, by rw [sheetF_far (by omega) hs]; exact h.run, h.next, h.rem, h.few, h.alive⟩
theorem Wi.wn (h : Wi on l ss N) (hL : l.h.n = L) (hh : l.h.note = hn) : Wn on (parse [] ss) N L hn := ⟨h.cut, ⟨l.h, l.a, h.o.heads, hL, hh⟩⟩
theorem Wo.wn (h : Wo on l N) (hL : l.h.n = L) (hh : l.h.note = hn) : Wn on (textsF (onV on) l.h.n l.h.f) N L hn := ⟨h.cut, ⟨l.h, l.a, h.heads, hL, hh⟩⟩
end
section
variable {d : Dm} {l : Lm} {ss : List Sh} {N : Nat}
theorem putAll_lit (n : Nat) (hn : 0 < n) : ∀ (ss : List Sh) (d : Dm), d.power = true -> (∀ s ∈ ss, s.t.length <= 497) -> 2 + n <= d.on.length -> d.lit = false -> (Dm.putAll n ss d).2 = 0 /\ (Dm.putAll n ss d).1.lit = false
 |[], d, hp, _, _, hl => by
  have ho : d.out = false := by simp [Dm.out, hl]
  have e : Dm.putAll n [] d = (d.act.all, 0) := by simp [Dm.putAll, Dm.flushS, hp, ho]
  rw [e]
  exact ⟨rfl, hl⟩
 |s :: r, d, hp, hs, hlen, hl => by
  have hm := Nat.mod_lt s.q hn
  have h1 : secB d ((2 + s.q % n : Nat) : Int) = true := by simp [secB]; omega
  have h5 : (secL s.q s.last s.t).length = 512 := secL_length _ _ _ (hs s (by simp))
  have ho : d.out = false := by simp [Dm.out, hl]
  have e : d.writeS ((2 + s.q % n : Nat) : Int) (secL s.q s.last s.t) = (d.act.push (2 + s.q % n) (secL s.q s.last s.t), 0) := by
   simp only [Dm.writeS, hp, h1, h5, ho]
   rfl
  have e2 : Dm.putAll n (s :: r) d = Dm.putAll n r (d.act.push (2 + s.q % n) (secL s.q s.last s.t)) := by
   simp only [Dm.putAll]
   rw [e]
   rfl
  rw [e2]
  exact putAll_lit n hn r _ hp (fun x hx => hs x (by simp [hx])) hlen hl
theorem commit_far (h : Wi d.on l ss N) (tx : List UInt8) (hu : Up d) :
  (l.commitS d tx).1.h = l.h /\ (l.commitS d tx).2.1.on.length = d.on.length /\ (∀ a, a < 2 \/ 2 + l.h.n <= a -> onV (l.commitS d tx).2.1.on a = onV d.on a) /\ (d.lit = false -> (l.commitS d tx).2.2 ≠ 4 /\ (l.commitS d tx).2.1.lit = false) := by
 have hlo := h.o.hok.lo
 have hd := h.alive
 by_cases h1 : l.h.n < need tx.length
 ·have e : l.commitS d tx = (l, d, 6) := by simp [Lm.commitS, hd, h1]
  rw [e]
  exact ⟨rfl, rfl, fun _ _ => rfl, fun hl => ⟨fun h4 => absurd (show (6 : Int) = 4 from h4) (by decide), hl⟩⟩
 by_cases h2 : l.left < need tx.length
 ·have e : l.commitS d tx = (l, d, 5) := by simp [Lm.commitS, hd, h1, h2]
  rw [e]
  exact ⟨rfl, rfl, fun _ _ => rfl, fun hl => ⟨fun h4 => absurd (show (5 : Int) = 4 from h4) (by decide), hl⟩⟩
 have e : l.commitS d tx = if (Dm.putAll l.h.n (cutL l.next tx) d).2 = 0 then ({ l with next := (l.next + need tx.length) % 18446744073709551616, left := l.left - need tx.length }, (Dm.putAll l.h.n (cutL l.next tx) d).1, 0) else ({ l with dead := (Dm.putAll l.h.n (cutL l.next tx) d).2 == 4 }, (Dm.putAll l.h.n (cutL l.next tx) d).1, (Dm.putAll l.h.n (cutL l.next tx) d).2) := by
  simp [Lm.commitS, hd, h1, h2]
 have hs : ∃ f k, (Dm.putAll l.h.n (cutL l.next tx) d).1.on = settleL f d.on (wrS l.h.n ((cutL l.next tx).take k)) := by
  rcases putAll_out l.h.n (by omega) (cutL l.next tx) d hu.power (shLe _ _) h.o.len with ⟨_, g2, _⟩ | ⟨_, ⟨k, f, _, g3⟩, _⟩
  ·exact ⟨fun _ => true, (cutL l.next tx).length, by rw [g2, hu.wait, List.take_length]; rfl⟩
  ·exact ⟨f, k, by rw [g3, hu.wait]; rfl⟩
 have hf : (Dm.putAll l.h.n (cutL l.next tx) d).1.on.length = d.on.length /\ ∀ a, a < 2 \/ 2 + l.h.n <= a -> onV (Dm.putAll l.h.n (cutL l.next tx) d).1.on a = onV d.on a := by
  obtain ⟨f, k, hs⟩ := hs
  rw [hs]
  refine ⟨settleL_length _ _ _, fun a ha => ?_⟩
  have hin : ∀ x ∈ wrS l.h.n ((cutL l.next tx).take k), 2 <= x.1 /\ x.1 < 2 + l.h.n := fun x hx => by
   obtain ⟨s, _, rfl⟩ := List.mem_map.1 hx
   have := Nat.mod_lt s.q (show 0 < l.h.n by omega)
   show 2 <= 2 + s.q % l.h.n /\ 2 + s.q % l.h.n < 2 + l.h.n
   omega
  rcases settle_mem f d.on _ (fun x hx => by have := (hin x hx).2; have := h.o.len; omega) a with e | ⟨x, hx, e, _⟩
  ·exact e
  ·have := hin x hx
   omega
 have hlt : d.lit = false -> (Dm.putAll l.h.n (cutL l.next tx) d).2 = 0 /\ (Dm.putAll l.h.n (cutL l.next tx) d).1.lit = false := putAll_lit l.h.n (by omega) _ d hu.power (shLe _ _) h.o.len
 rw [e]
 split
 ·exact ⟨rfl, hf.1, hf.2, fun hl => ⟨fun h4 => absurd (show (0 : Int) = 4 from h4) (by decide), (hlt hl).2⟩⟩
 ·next hne => exact ⟨rfl, hf.1, hf.2, fun hl => absurd (hlt hl).1 hne⟩
theorem trim_far (h : Wo d.on l N) (hN : N + 1 < 18446744073709551616) (hd : l.dead = false) (hu : Up d) :
  (l.trimS d).1.h.n = l.h.n /\ (l.trimS d).1.h.note = l.h.note /\ (l.trimS d).2.1.on.length = d.on.length /\ (∀ a, 2 <= a -> onV (l.trimS d).2.1.on a = onV d.on a) /\
  (∃ x a, countS (headS (onV (l.trimS d).2.1.on 0)) (headS (onV (l.trimS d).2.1.on 1)) = some (x, a) /\ x.n = l.h.n /\ x.note = l.h.note) /\ ((l.trimS d).2.2 = 4 -> d.lit = true) /\ (d.lit = false -> (l.trimS d).2.1.lit = false) := by
 have hlo := h.hok.lo
 have ha : 1 - l.a < d.on.length := by have := h.len; omega
 have e : l.trimS d = if (d.putHead (1 - l.a) l.newHead).2 = 0 then ({ l with h := l.newHead, a := 1 - l.a, left := l.h.n }, (d.putHead (1 - l.a) l.newHead).1, 0) else ({ l with dead := (d.putHead (1 - l.a) l.newHead).2 == 4 }, (d.putHead (1 - l.a) l.newHead).1, (d.putHead (1 - l.a) l.newHead).2) := by
  simp [Lm.trimS, hd]
 have hset := onV_set d.on (1 - l.a) (hsec l.newHead) ha
 obtain ⟨c1, c2, c3, c4⟩ := headsOf_set h hN (d.on.set (1 - l.a) (hsec l.newHead)) hset.1 hset.2
 have hon : (d.putHead (1 - l.a) l.newHead).1.on = d.on.set (1 - l.a) (hsec l.newHead) \/ (d.putHead (1 - l.a) l.newHead).1.on = d.on := by
  rcases putHead_out d hu (1 - l.a) l.newHead ha h.hok.note_ with ⟨_, h2, _⟩ | ⟨_, h2, _⟩
  ·exact .inl h2
  ·exact h2
 have hfar : (d.putHead (1 - l.a) l.newHead).1.on.length = d.on.length /\ (∀ a, 2 <= a -> onV (d.putHead (1 - l.a) l.newHead).1.on a = onV d.on a) /\ ∃ x a, countS (headS (onV (d.putHead (1 - l.a) l.newHead).1.on 0)) (headS (onV (d.putHead (1 - l.a) l.newHead).1.on 1)) = some (x, a) /\ x.n = l.h.n /\ x.note = l.h.note := by
  rcases hon with e | e
  ·rw [e]
   exact ⟨by simp, fun a ha => hset.2 a (by omega), ⟨_, _, c3, rfl, rfl⟩⟩
  ·rw [e]
   exact ⟨rfl, fun _ _ => rfl, ⟨_, _, h.heads, rfl, rfl⟩⟩
 have hlit : d.lit = false -> (d.putHead (1 - l.a) l.newHead).2 = 0 /\ (d.putHead (1 - l.a) l.newHead).1.lit = false := fun hl => putHead_unlit d hu hl (1 - l.a) l.newHead ha h.hok.note_
 rw [e]
 split
 ·exact ⟨rfl, rfl, hfar.1, hfar.2.1, hfar.2.2, (fun h4 => absurd (show (0 : Int) = 4 from h4) (by decide)), fun hl => (hlit hl).2⟩
 ·next hne => exact ⟨rfl, rfl, hfar.1, hfar.2.1, hfar.2.2, (fun _ => by
   cases hl : d.lit with
   |true => rfl
   |false => exact absurd (hlit hl).1 hne), fun hl => absurd (hlit hl).1 hne⟩
end
structure Sm where
 l : Lm
 n : Nat
 note : List UInt8
 used : Nat -> Bool
 late : Bm
 chg : Bm
 cused : Nat -> Bool
 dead : Bool
def Sm.abortS (s : Sm) : Sm := { s with chg := bnone, cused := s.used }
def Sm.doneS (s : Sm) : Sm := { s with late := s.late.over s.chg, used := s.cused, chg := bnone }
def Dm.thenFlush (r : Dm × Int) : Dm × Int := if r.2 = 0 then r.1.flushS else r
def Sm.trimS (s : Sm) (d : Dm) : Sm × Dm × Int :=
 if s.dead || !d.power then ({ s with dead := true }, d, 4)
 else match Dm.thenFlush (Dm.putPg (2 + s.l.h.n) s.late (s.late.keys s.n) d) with
  |(d2, e) => if e = 0 then match s.l.trimS d2 with
    |(l1, d3, e3) => if e3 = 0 then ({ s with l := l1, late := bnone }, d3, 0) else ({ s with l := l1, dead := e3 == 4 }, d3, e3)
   else ({ s with dead := e == 4 }, d2, e)
def Sm.endS (s : Sm) (d : Dm) (e : Int) : Sm × Dm × Int :=
 if e = 6 then (s.abortS, d, e) else if e = 0 then (s.doneS, d, e) else ({ s with dead := s.dead || e == 4 }, d, e)
def Sm.commitS (s : Sm) (d : Dm) : Sm × Dm × Int :=
 if s.dead || !d.power then ({ s with dead := true }, d, 4)
 else if s.chg.keys s.n = [] then (s, d, 0)
 else match s.l.commitS d (s.chg.text s.n) with
  |(l1, d1, e1) => if e1 = 5 then match ({ s with l := l1 } : Sm).trimS d1 with
    |(s2, d2, e2) => if e2 = 0 then match s2.l.commitS d2 (s.chg.text s.n) with
      |(l3, d3, e3) => ({ s2 with l := l3 } : Sm).endS d3 e3
     else s2.endS d2 e2
   else ({ s with l := l1 } : Sm).endS d1 e1
def Dm.openP (d : Dm) (l : Lm) (n : Nat) (note : List UInt8) (bs : List Bm) (used : Nat -> Bool) : Option Sm × Dm × Int :=
 match Dm.thenFlush (Dm.putBs (2 + l.h.n) n bs d) with
  |(d2, e) => if e = 0 then match l.trimS d2 with
    |(l1, d3, e3) => if e3 = 0 then (some ⟨l1, n, note, used, bnone, bnone, used, false⟩, d3, 0) else (none, d3, e3)
   else (none, d2, e)
structure Rc (on : List (List UInt8)) (L n : Nat) (hn : List UInt8) (C : Nat -> List UInt8) (N : Nat) : Prop where
 out : ∃ bs : List Bm, (∀ m ∈ bs, m.Ok n) /\ Wn on (bs.map fun m => m.text n) N L hn /\ ∀ i, i < n -> (overs bs i).getD (onV on (2 + L + i)) = C i
 in_ : 2 + L + n <= on.length
structure St (d : Dm) (s : Sm) (L n : Nat) (hn : List UInt8) (C : Nat -> List UInt8) (N : Nat) : Prop where
 up : Up d
 alive : s.dead = false
 log : ∃ ss bs, Wi d.on s.l ss N /\ parse [] ss = bs.map (fun m => m.text n) /\ (∀ m ∈ bs, Bm.Ok m n) /\ s.late = overs bs
 hL : s.l.h.n = L
 hh : s.l.h.note = hn
 hs : s.n = n
 now : ∀ i, i < n -> (s.late i).getD (onV d.on (2 + L + i)) = C i
 in_ : 2 + L + n <= d.on.length
 chg : s.chg.Ok n
section
variable {d : Dm} {s : Sm} {L n N : Nat} {hn : List UInt8} {C : Nat -> List UInt8}
theorem Rc.mono {on : List (List UInt8)} {N' : Nat} (h : Rc on L n hn C N) (hN : N <= N') : Rc on L n hn C N' := by
 obtain ⟨bs, h1, h2, h3⟩ := h.out
 exact ⟨⟨bs, h1, h2.mono hN, h3⟩, h.in_⟩
theorem St.mono {N' : Nat} (h : St d s L n hn C N) (hN : N <= N') : St d s L n hn C N' := by
 obtain ⟨ss, bs, h1, h2⟩ := h.log
 exact ⟨h.up, h.alive, ⟨ss, bs, h1.mono hN, h2⟩, h.hL, h.hh, h.hs, h.now, h.in_, h.chg⟩
theorem St.late_ok (h : St d s L n hn C N) : s.late.Ok n := by
 obtain ⟨_, bs, _, _, h3, h4⟩ := h.log
 rw [h4]
 exact overs_ok bs h3
theorem St.rc (h : St d s L n hn C N) : Rc d.on L n hn C N := by
 obtain ⟨ss, bs, h1, h2, h3, h4⟩ := h.log
 refine ⟨⟨bs, h3, by rw [<- h2]; exact h1.wn h.hL h.hh, fun i hi => ?_⟩, h.in_⟩
 rw [<- h4]
 exact h.now i hi
theorem one_over (m : Bm) : overs [m] = m := by
 funext i
 show (m i).or none = m i
 cases m i <;> rfl
theorem thenFlush_eq (r : Dm × Int) : Dm.thenFlush r = ((if r.2 = 0 then r.1.flushS else (r.1, r.2)).1, (if r.2 = 0 then r.1.flushS else (r.1, r.2)).2) := by
 unfold Dm.thenFlush
 split <;> rfl
theorem fl_out {o : Nat} {bs : List Bm} (hb : ∀ m ∈ bs, m.Ok n) (hu : Up d) (hl : o + n <= d.on.length) :
  ((Dm.thenFlush (Dm.putBs o n bs d)).2 = 0 /\ Up (Dm.thenFlush (Dm.putBs o n bs d)).1 /\ (Dm.thenFlush (Dm.putBs o n bs d)).1.on.length = d.on.length /\
   (∀ a, a < o -> onV (Dm.thenFlush (Dm.putBs o n bs d)).1.on a = onV d.on a) /\ (∀ i, i < n -> onV (Dm.thenFlush (Dm.putBs o n bs d)).1.on (o + i) = (overs bs i).getD (onV d.on (o + i))) /\ (d.lit = false -> (Dm.thenFlush (Dm.putBs o n bs d)).1.lit = false)) \/
  ((Dm.thenFlush (Dm.putBs o n bs d)).2 = 4 /\ d.lit = true /\ Off (Dm.thenFlush (Dm.putBs o n bs d)).1 /\ (Dm.thenFlush (Dm.putBs o n bs d)).1.on.length = d.on.length /\
   (∀ a, a < o -> onV (Dm.thenFlush (Dm.putBs o n bs d)).1.on a = onV d.on a) /\ (∀ i, overs bs i = none -> onV (Dm.thenFlush (Dm.putBs o n bs d)).1.on (o + i) = onV d.on (o + i))) := by
 have hw := (putBs_wr o n bs d hu.power hb hl).flush
 rw [thenFlush_eq]
 dsimp only
 rcases hw.is with ⟨h1, h2, h3, h4⟩ | ⟨h1, h2, ⟨k, f, _, h3⟩, h4⟩
 ·left
  rw [hu.wait, List.nil_append] at h2
  obtain ⟨a1, a2⟩ := all_wrB hb d.on hl
  refine ⟨h1, h3, by rw [h2, settleL_length], fun a ha => by rw [h2]; exact a1 a ha, fun i hi => by rw [h2]; exact a2 i hi, h4⟩
 ·right
  rw [hu.wait, List.nil_append] at h3
  obtain ⟨a1, a2⟩ := some_wrB hb f d.on hl k
  exact ⟨h1, h2, h4, by rw [h3, settleL_length], fun a ha => by rw [h3]; exact a1 a ha, fun i hi => by rw [h3]; exact a2 i hi⟩
theorem St.trim (h : St d s L n hn C N) (hN : N + 1 < 18446744073709551616) :
  ((s.trimS d).2.2 = 0 /\ St (s.trimS d).2.1 (s.trimS d).1 L n hn C (N + 1) /\ (∃ l1, (s.trimS d).1 = { s with l := l1, late := bnone } /\ l1.left = L) /\ (d.lit = false -> (s.trimS d).2.1.lit = false) /\ (s.trimS d).2.1.on.length = d.on.length) \/
  ((s.trimS d).2.2 = 4 /\ d.lit = true /\ Rc (s.trimS d).2.1.on L n hn C (N + 1) /\ Off (s.trimS d).2.1 /\ (s.trimS d).2.1.on.length = d.on.length) := by
 obtain ⟨ss, bs, h1, h2, h3, h4⟩ := h.log
 have hlo := h1.o.hok.lo
 have hL := h.hL
 have hlate := h.late_ok
 have hb1 : ∀ m ∈ [s.late], m.Ok n := fun m hm => by
  obtain rfl : m = s.late := by simpa using hm
  exact hlate
 have eb : Dm.putBs (2 + L) n [s.late] d = Dm.putPg (2 + L) s.late (s.late.keys n) d := by
  show (if (Dm.putPg (2 + L) s.late (s.late.keys n) d).2 = 0 then ((Dm.putPg (2 + L) s.late (s.late.keys n) d).1, (0 : Int)) else ((Dm.putPg (2 + L) s.late (s.late.keys n) d).1, (Dm.putPg (2 + L) s.late (s.late.keys n) d).2)) = _
  split
  ·next e => rw [<- e]
  ·rfl
 have hf := fl_out (o := 2 + L) hb1 h.up h.in_
 rw [eb, one_over] at hf
 have e : s.trimS d = if (Dm.thenFlush (Dm.putPg (2 + L) s.late (s.late.keys n) d)).2 = 0 then
   (if (s.l.trimS (Dm.thenFlush (Dm.putPg (2 + L) s.late (s.late.keys n) d)).1).2.2 = 0 then ({ s with l := (s.l.trimS (Dm.thenFlush (Dm.putPg (2 + L) s.late (s.late.keys n) d)).1).1, late := bnone }, (s.l.trimS (Dm.thenFlush (Dm.putPg (2 + L) s.late (s.late.keys n) d)).1).2.1, 0)
    else ({ s with l := (s.l.trimS (Dm.thenFlush (Dm.putPg (2 + L) s.late (s.late.keys n) d)).1).1, dead := (s.l.trimS (Dm.thenFlush (Dm.putPg (2 + L) s.late (s.late.keys n) d)).1).2.2 == 4 }, (s.l.trimS (Dm.thenFlush (Dm.putPg (2 + L) s.late (s.late.keys n) d)).1).2.1, (s.l.trimS (Dm.thenFlush (Dm.putPg (2 + L) s.late (s.late.keys n) d)).1).2.2))
   else ({ s with dead := (Dm.thenFlush (Dm.putPg (2 + L) s.late (s.late.keys n) d)).2 == 4 }, (Dm.thenFlush (Dm.putPg (2 + L) s.late (s.late.keys n) d)).1, (Dm.thenFlush (Dm.putPg (2 + L) s.late (s.late.keys n) d)).2) := by
  unfold Sm.trimS
  rw [h.alive, h.up.power, hL, h.hs]
  rfl
 rw [e]
 generalize Dm.thenFlush (Dm.putPg (2 + L) s.late (s.late.keys n) d) = r at hf ⊢
 obtain ⟨d2, e2⟩ := r
 dsimp only at hf ⊢
 have fin : ∀ on' : List (List UInt8), on'.length = d.on.length -> (∀ a, a < 2 + L -> onV on' a = onV d.on a) -> (∀ i, s.late i = none -> onV on' (2 + L + i) = onV d.on (2 + L + i)) -> Rc on' L n hn C (N + 1) := fun on' g1 g2 g3 => by
  refine ⟨⟨bs, h3, ?_, fun i hi => ?_⟩, by rw [g1]; exact h.in_⟩
  ·rw [<- h2]
   exact ((h1.wn hL h.hh).far g1 g2).mono (Nat.le_succ _)
  ·rw [<- h4]
   have := h.now i hi
   cases hx : s.late i with
   |some p => rw [hx] at this; exact this
   |none => rw [hx] at this; rw [g3 i hx]; exact this
 rcases hf with ⟨rfl, f2, f3, f4, f5, f6⟩ | ⟨rfl, f2, f3, f4, f5, f6⟩
 ·rw [if_pos rfl]
  have h1' : Wi d2.on s.l ss N := h1.far f3 (by rw [hL]; exact f4)
  have hto := trim_out h1'.o hN h1.alive f2
  obtain ⟨t1, t2, t3, t4, t5, t6, t7⟩ := trim_far h1'.o hN h1.alive f2
  have hnow : ∀ i, i < n -> onV d2.on (2 + L + i) = C i := fun i hi => by rw [f5 i hi]; exact h.now i hi
  have hleft : (s.l.trimS d2).2.2 = 0 -> (s.l.trimS d2).1.left = L := fun h0 => by
   rcases hto with ⟨_, w, _⟩ | ⟨w, _⟩
   ·have := w.few
    simp only [List.length_nil, Nat.zero_add] at this
    rw [this, t1, hL]
   ·rw [h0] at w; cases w
  rw [h1'.texts] at hto
  generalize s.l.trimS d2 = q at hto t1 t2 t3 t4 t5 t6 t7 hleft ⊢
  obtain ⟨l1, d3, e3⟩ := q
  dsimp only at hto t1 t2 t3 t4 t5 t6 t7 hleft ⊢
  rcases hto with ⟨rfl, w, u⟩ | ⟨rfl, w, u⟩
  ·rw [if_pos rfl]
   left
   refine ⟨rfl, ⟨u, h.alive, ⟨[], [], w, rfl, (fun m hm => by simp at hm), rfl⟩, by rw [<- hL]; exact t1, by rw [<- h.hh]; exact t2, h.hs, fun i hi => ?_, by rw [t3, f3]; exact h.in_, h.chg⟩, ⟨l1, rfl, hleft rfl⟩, fun hl => t7 (f6 hl), by rw [t3, f3]⟩
   show onV d3.on (2 + L + i) = C i
   rw [t4 _ (by omega)]
   exact hnow i hi
  ·rw [if_neg (by decide)]
   right
   have hlt : d.lit = true := by
    cases hl : d.lit with
    |true => rfl
    |false => rw [f6 hl] at t6; exact absurd (t6 rfl) (by decide)
   refine ⟨rfl, hlt, ?_, u, by rw [t3, f3]⟩
   rw [hL, h.hh] at t5
   have pg : ∀ i, i < n -> onV d3.on (2 + L + i) = C i := fun i hi => by rw [t4 _ (by omega)]; exact hnow i hi
   rcases w with w | w
   ·refine ⟨⟨bs, h3, ⟨by rw [<- h2]; exact w, t5⟩, fun i hi => ?_⟩, by rw [t3, f3]; exact h.in_⟩
    rw [pg i hi, <- h4]
    have := h.now i hi
    cases hx : s.late i with
    |some p => rw [hx] at this; exact this
    |none => rfl
   ·exact ⟨⟨[], (fun m hm => by simp at hm), ⟨w, t5⟩, fun i hi => by show onV d3.on (2 + L + i) = C i; exact pg i hi⟩, by rw [t3, f3]; exact h.in_⟩
 ·rw [if_neg (by decide)]
  right
  exact ⟨rfl, f2, fin d2.on f4 f5 f6, f3, f4⟩
end
end Go.Proofs.YtepaeliamhjgiaaGreatDoor
