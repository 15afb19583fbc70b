/- The iterator of a box's records: what it hands out, in its order. Conditions: the bytes are those of records, one behind the other; at most 2^47 bytes. -/
import Derived.RangeFuncBound
import Derived.RangeFuncCalls
import Derived.RangeFuncLeaves
import Derived.OwnWalkIn
import Derived.Test.YtcgfnfejacgaeaaDoorRgOwn
import Derived.Test.YtcgfnfejacgaeaaDoorRcNext
namespace Go.Proofs.YtcgfnfejacgaeaaDoor
open Go.RowKit

theorem wpListIn_load_mid {F : Fence} {n : Nat} {P : Program} {ops : Array Oper} {rest : List Oper} {op : Oper} {a : Act} {w : World} {Q : Exit → Act → World → Prop} (hgd : op.guard = none) (ty : TypeId) (x : Operand) (ho : op.op = .load ty x)
    (b o : Nat) (hx : a.eval x = .pointer (some ⟨b, o, none⟩)) (cs : List Value) (d : TypeDesc) (hc : w.rangeAt b o cs) (hu : P.underlying ty = some d) (hd : d.isRow = true) (hi : (P.info? ty).map (·.size) = some cs.length)
    (h : wpListIn F n P ops Q rest (a.put op.dst (.agg cs.toArray)) w) : wpListIn F n P ops Q (op :: rest) a w := by
  refine wpListIn_plain hgd fun K hK => ?_
  unfold Oper.wpIn
  refine ⟨?_, ?_⟩
  · simp [Oper.about, ho]
  · rw [Oper.semAt_plain F _ _ (by rw [ho]; intro c hc'; cases hc')]
    simp only [execOp, ho, hx, Instr.loadAt, Instr.sureAddr, Sem.run_bind, Sem.run_pure, Result.andThen_ok, run_loadVar_mid w b o ty cs d hc hu hd hi]
    exact hK _ _ h
/-- The types of an opener; of all that the iterator reads. -/
def TO (t : TypeId) : Prop := t = 80
def TK (t : TypeId) : Prop := t = 80 ∨ t = 5 ∨ t = 23
/-- The iterator's opener: b its block, q that of its bytes. -/
structure It (w : World) (b : Nat) (q : Option Nat) (l : List UInt8) : Prop where
  o : Opn (fun k => k = b ∨ q = some k) w b l none
  ty : ∀ k, q = some k → ∃ cs fr, w.heap[k]? = some (.cells cs 5 fr)
section
variable {w w' : World} {b g : Nat} {q : Option Nat} {l l' : List UInt8}
theorem It.box (h : It w b q l) : ∃ cs, Box w b 80 cs := by
  obtain ⟨_, A, c, fv, hx, _⟩ := h.o
  exact ⟨_, hx⟩
theorem It.lt (h : It w b q l) : b < w.heap.size ∧ ∀ k, q = some k → k < w.heap.size := by
  obtain ⟨cs, hb⟩ := h.box
  refine ⟨hb.lt, fun k e => ?_⟩
  obtain ⟨cs, fr, e⟩ := h.ty k e
  exact (Array.getElem?_eq_some_iff.1 e).1
theorem It.ne (h : It w b q l) : q ≠ some b := fun e => by
  obtain ⟨cs, fr, e⟩ := h.ty b e
  obtain ⟨cs', hb⟩ := h.box
  unfold Box at hb
  rw [hb] at e
  injection e with e
  injection e with _ e
  exact absurd e (by decide)
theorem It.far (h : It w b q l) (hk : Kp (fun k => k = g) w w') (h1 : g ≠ b) (h2 : q ≠ some g) : It w' b q l :=
  ⟨h.o.kp hk fun k e x => by
    rcases e with e | e
    · exact h1 (by omega)
    · exact h2 (by rw [e, x]), fun k e => by
    obtain ⟨cs, fr, e'⟩ := h.ty k e
    exact ⟨cs, fr, (hk.block k (h.lt.2 k e) (fun x => h2 (by rw [e, x]))).trans e'⟩⟩
theorem It.still (h : It w b q l) (hk : Kp (fun _ => False) w w') : It w' b q l :=
  ⟨h.o.kp hk fun _ _ e => e, fun k e => by
    obtain ⟨cs, fr, e'⟩ := h.ty k e
    exact ⟨cs, fr, (hk.block k (h.lt.2 k e) (fun x => x)).trans e'⟩⟩
theorem It.next (h : It w b q l) (ho : Opn (fun k => k = b ∨ q = some k) w' b l' none) (hk : Kp (fun k => k = b) w w') : It w' b q l' :=
  ⟨ho, fun k e => by
    obtain ⟨cs, fr, e'⟩ := h.ty k e
    exact ⟨cs, fr, (hk.block k (h.lt.2 k e) (fun x => h.ne (by rw [e, x]))).trans e'⟩⟩
theorem It.near (h : It w b q l) (hn : Near TK w w') : It w' b q l := by
  have ty := h.ty
  have hb := h.box
  obtain ⟨hG, A, c, fv, hx, h1, h2, h3, h4, h5⟩ := h.o
  refine ⟨⟨hG, A, c, fv, hn.box hx (.inl rfl), h1, h2, ?_, h4, h5⟩, fun k e => ?_⟩
  · by_cases hl : l = []
    · exact .inl hl
    · refine h3.keep fun a i u ha _ => ?_
      rcases h4 hl a ha with e | e
      · rw [e]
        exact World.cell?_of_block (hn.box hx (.inl rfl) |>.trans hx.symm)
      · obtain ⟨cs, fr, e'⟩ := ty _ e
        exact World.cell?_of_block ((hn.2 _ _ _ _ e' (.inr (.inl rfl))).trans e'.symm)
  · obtain ⟨cs, fr, e'⟩ := ty k e
    exact ⟨cs, fr, hn.2 _ _ _ _ e' (.inr (.inl rfl))⟩
end

/-- A copy of bytes, with its block's type. -/
def Slt (w : World) (B : Nat) (v : Value) (l : List UInt8) : Prop :=
  ∃ A c, v = .slice A l.length c ∧ l.length ≤ c ∧ c ≤ maxLen ∧ Rd w A l ∧ (∀ a, A = some a → B ≤ a.block ∧ ∃ cs fr, w.heap[a.block]? = some (.cells cs 5 fr))
theorem slt_of_own {w : World} {B : Nat} {v : Value} {l : List UInt8} (h : w.ownsRow 0 5 1 v ([] ++ l).length (bcs ([] ++ l))) (hB : ∀ k, v.ownBlock = some k → B ≤ k) : Slt w B v l := by
  simp only [List.nil_append] at h
  have h' := h
  rcases h.2 with ⟨rfl, h0⟩ | ⟨g, cap, cur, rfl, _, hh, hcap, hm, _⟩
  · have hl : l = [] := List.eq_nil_of_length_eq_zero h0
    subst hl
    exact ⟨none, 0, rfl, Nat.le_refl _, by simp [maxLen], Rd.nil _ _, fun _ h => by cases h⟩
  · exact ⟨_, cap, rfl, hcap, hm, Rd.of_own h', fun a ha => by cases ha; exact ⟨hB g rfl, _, _, hh⟩⟩
set_option maxHeartbeats 400000 in
theorem clone_typed (A : Option Addr) (c : Nat) (l : List UInt8) (w : World) (h : Rd w A l) (hlen : l.length ≤ 140737488355328) :
    Calls Tryd.prog 33 #[.slice A l.length c] w fun e w' => ∃ v, e = .returned v ∧ Slt w' w.heap.size v l ∧ Kp (fun _ => False) w w' := by
  obtain ⟨i0, hi, hz0, hz1, hz2⟩ := info_parts info_byte
  have hnil := Lib.run_eql_slice_nil (P := Tryd.prog) w 23 5 A l.length c 0 0 Tryd.underlying23
  rcases A with _ | a
  · have hl : l = [] := by
      rcases h with h | ⟨b, o, e, _⟩
      · exact h
      · cases e
    subst hl
    simp only [List.length_nil, Option.isNone_none] at hnil
    show Calls Tryd.prog 33 #[.slice none 0 c] w _
    go_enter Tryd.func33, Tryd.ntmps33
    go_wp2_with fail
    go_ret
    exact ⟨_, rfl, ⟨none, 0, rfl, Nat.le_refl _, by simp [maxLen], Rd.nil _ _, fun _ h => by cases h⟩, Kp.refl _ _⟩
  · simp only [Option.isNone_some] at hnil
    have H := Lib.hid h
    clear h
    go_enter Tryd.func33, Tryd.ntmps33
    go_wp2_with (at_builtin; refine wpList_put _ rfl (.tmp 5) (.tmp 6) 23 rfl 5 i0 Tryd.underlying23 hi hz0 hz1 hz2 _ rfl [] l (World.ownsRow_made w #[] 0 (Nat.zero_le _) (by simp [maxLen]) rfl) (some a) l.length c rfl rfl (H.out.alloc _) (by simpa using hlen) ?_)
    intro v' w1 hown hg hat
    have Hown := Lib.hid hown
    have Hg := Lib.hid hg
    have Hat := Lib.hid hat
    clear hown hg hat
    go_wp2_with fail
    go_ret
    have hk : Kp (fun k => w.heap.size ≤ k) w w1 := ((Kp.refl _ w).alloc (.cells #[] 5)).grown Hg.out (by
      intro k hk
      simp [Value.ownBlock] at hk
      exact .inl (by omega))
    refine ⟨v', rfl, slt_of_own Hown.out ?_, hk.fresh _⟩
    intro k hk
    rcases Hat.out with e | e <;> rw [e] at hk <;> simp [Value.ownBlock] at hk <;> omega
set_option maxHeartbeats 400000 in
theorem of_typed (w : World) (A : Option Addr) (n c : Nat) (l : List UInt8) (hn : l.length = n) (hr : Rd w A l) (hlen : l.length ≤ 140737488355328) :
    Calls Tryd.prog 18 #[.slice A n c] w fun e w' => ∃ b q, e = .returned (.pointer (some ⟨b, 0, none⟩)) ∧ w.heap.size ≤ b ∧ It w' b q l ∧ Kp (fun _ => False) w w' := by
  subst hn
  have Hr := Lib.hid hr
  clear hr
  go_enter Tryd.func18, Tryd.ntmps18
  go_wp2_with fail
  refine (clone_typed A c l w Hr.out hlen).mono ?_
  rintro e w1 ⟨v, rfl, ⟨A1, c1, rfl, h1, h2, h3, h4⟩, hk⟩
  have Hd := Lib.hid (And.intro h3 h4)
  have Hk := Lib.hid hk
  clear h3 h4 hk
  go_wp2_with fail
  go_ret
  have hs := Hk.out.size
  refine ⟨_, A1.map (·.block), rfl, hs, ⟨⟨.inl rfl, A1, c1, .nilFunc, Box.new w1 _ _, h1, h2, Hd.out.1.alloc _, fun _ a ha => .inr (by rw [ha]; rfl), rfl⟩, fun k e => ?_⟩, Hk.out.alloc _⟩
  obtain ⟨a, ha, rfl⟩ := Option.map_eq_some_iff.1 e
  obtain ⟨_, cs, fr, e'⟩ := Hd.out.2 a ha
  exact ⟨cs, fr, (Below.heap_alloc _ _ _ (Array.getElem?_eq_some_iff.1 e').1).trans e'⟩

/-- A record as it is handed out. -/
def encR (rs : List Rc) (x : Fin rs.length) : Array Value := #[.agg (rcv (rcsL (rs.take x.1)).length rs[x].hash ⟨rs[x].data.toArray⟩).toArray, .int .i64 0]
/-- A round under way: from v to W the opener alone has turned. -/
structure Lv (v W : World) (b : Nat) (q : Option Nat) (Bb : Nat) (sl : Value) (l : List UInt8) : Prop where
  it : It W b q l
  bx : Box W Bb 23 #[sl]
  kp : Kp (fun k => k = b) v W
  lt : b < v.heap.size ∧ (∀ k, q = some k → k < v.heap.size) ∧ Bb < v.heap.size
  ne : Bb ≠ b
section
variable {v W W' : World} {b Bb g : Nat} {q : Option Nat} {sl : Value} {l l' : List UInt8}
theorem Lv.still (h : Lv v W b q Bb sl l) (hk : Kp (fun _ => False) W W') : Lv v W' b q Bb sl l :=
  ⟨h.it.still hk, h.bx.kp hk (fun e => e), h.kp.trans (hk.mono fun _ _ e => e.elim), h.lt, h.ne⟩
theorem Lv.next (h : Lv v W b q Bb sl l) (ho : Opn (fun k => k = b ∨ q = some k) W' b l' none) (hk : Kp (fun k => k = b) W W') : Lv v W' b q Bb sl l' :=
  ⟨h.it.next ho hk, h.bx.kp hk h.ne, h.kp.trans hk, h.lt, h.ne⟩
theorem Lv.far (h : Lv v W b q Bb sl l) (hg : v.heap.size ≤ g) (hk : Kp (fun k => k = g) W W') : Lv v W' b q Bb sl l := by
  obtain ⟨h1, h2, h3⟩ := h.lt
  exact ⟨h.it.far hk (by omega) (fun e => by have := h2 g e; omega), h.bx.kp hk (by omega), h.kp.trans_new hk (fun _ e => .inl (by omega)), h.lt, h.ne⟩
end
theorem fin_take {m k : Nat} (h : k < m) : (List.finRange m).take (k + 1) = (List.finRange m).take k ++ [⟨k, h⟩] := by
  rw [List.take_succ_eq_append_getElem (by simpa using h)]
  simp
/-- How many bytes the opener of block b has left. -/
def leftN (w : World) (b : Nat) : Nat := match w.cell? ⟨b, 0, none⟩ with
  | some (.slice _ n _) => n
  | _ => 0
theorem It.left {w : World} {b : Nat} {q : Option Nat} {l : List UInt8} (h : It w b q l) : leftN w b = l.length := by
  obtain ⟨_, A, c, fv, hx, _⟩ := h.o
  have := hx.cell 0
  simp at this
  unfold leftN
  rw [this]

set_option maxRecDepth 100000 in
set_option maxHeartbeats 8000000 in
theorem records1_any (n : Nat) (hn : 1 ≤ n) (rs : List Rc) (hok : ∀ r ∈ rs, r.Ok) (Bb nn c : Nat) (A : Option Addr) (hnn : (rcsL rs).length = nn) (hle : nn ≤ 140737488355328) (l : Nat) (J Jx : List (Fin rs.length) → World → Prop) (W : World)
    (hb : Box W Bb 23 #[.slice A nn c]) (hr : Rd W A (rcsL rs)) (hJ : ∀ s v v', J s v → Far TO W.heap.size v v' → J s v')
    (hY : ∀ pre x W1, J pre W1 → pre.length < rs.length → YieldAt Fence.wide (n - 1) Tryd.prog l (encR rs x) W1 fun e W' => (e = .returned (.bool true) ∧ J (pre ++ [x]) W' ∧ Near TK W1 W') ∨ (e = .returned (.bool false) ∧ Jx (pre ++ [x]) W'))
    (h0 : J [] W) :
    Calls Tryd.prog 41 #[.func (.yield l) #[] #[], .pointer (some ⟨Bb, 0, none⟩)] W fun e W' => (∃ v, e = .returned v) ∧ ((∃ ys, ys = List.finRange rs.length ∧ J ys W') ∨ (∃ pre, (∃ k, k ≤ rs.length ∧ pre = (List.finRange rs.length).take k) ∧ Jx pre W')) := by
  have HB := Lib.hid hb
  have HR := Lib.hid hr
  have HY := Lib.hid hY
  have HJ := Lib.hid hJ
  have HOK := Lib.hid hok
  have HNN := Lib.hid hnn
  have J0 := Lib.hid h0
  have HBL := Lib.hid hb.lt
  have y0 : W.cell? ⟨Bb, 0, none⟩ = some (.slice A nn c) := hb.cell 0
  clear hb hr hY hJ hok hnn h0
  go_enter Tryd.func41, Tryd.ntmps41
  go_wp2_with fail
  refine (of_typed W A nn c (rcsL rs) HNN.out HR.out (by rw [HNN.out]; exact hle)).mono ?_
  rintro e w1 ⟨b, q, rfl, hbs, hit, hk⟩
  have I1 := Lib.hid hit
  have HBS := Lib.hid hbs
  have J1 := Lib.hid (HJ.out _ _ _ J0.out (Far.still hk))
  have B1 := Lib.hid (HB.out.kp hk (fun e => e))
  clear hbs hit hk y0
  go_wp2_with fail
  go_loopw [4, 5] (fun _ _ wr => ∃ k : Nat, k ≤ rs.length ∧ J ((List.finRange rs.length).take k) wr ∧ It wr b q (rcsL (rs.drop k)) ∧ Box wr Bb 23 #[.slice A nn c]) (fun _ _ wr => leftN wr b)
  case atStart => exact ⟨0, Nat.zero_le _, J1.out, I1.out, B1.out⟩
  case round =>
    obtain ⟨k, hk, hj, hit, hbx⟩ := hrel
    have HJK := Lib.hid hj
    have HIK := Lib.hid hit
    have HBK := Lib.hid hbx
    clear hj hit hbx
    by_cases hlt : k < rs.length
    · obtain ⟨r, hrk⟩ : ∃ r, r = rs[k] := ⟨_, rfl⟩
      have hrok : r.Ok := by rw [hrk]; exact HOK.out _ (List.getElem_mem hlt)
      have HROK := Lib.hid hrok
      obtain ⟨rest, hrest⟩ : ∃ rest, rest = rcsL (rs.drop (k + 1)) := ⟨_, rfl⟩
      have hdk : rcsL (rs.drop k) = rcL r ++ rest := by rw [List.drop_eq_getElem_cons hlt, hrk, hrest]; rfl
      obtain ⟨at_, hat⟩ : ∃ a, a = (rcsL (rs.take k)).length := ⟨_, rfl⟩
      have hall : (rcsL rs).length = at_ + (rcL r ++ rest).length := by
        rw [← hdk, hat, ← List.length_append]
        congr 1
        rw [rcsL, rcsL, rcsL, ← List.flatMap_append, List.take_append_drop]
      rw [HNN.out] at hall
      obtain ⟨lk, hlk⟩ : ∃ lk, lk = (rcL r ++ rest).length := ⟨_, rfl⟩
      rw [← hlk] at hall
      have hpos : 0 < lk := by rw [hlk, List.length_append, rcL_len hrok.1]; omega
      have HLK : Hid ((rcL r ++ rest).length = lk) := Lib.hid hlk.symm
      have HRL : Hid (rest.length < lk) := Lib.hid (by rw [hlk, List.length_append, rcL_len hrok.1]; omega)
      have hsub : IntKind.i64.wrap ((nn : Int) - (lk : Int)) = (at_ : Int) := by rw [IntWalk.i64_in _ (by omega)]; omega
      rw [hdk] at HIK
      obtain ⟨hs, hhs⟩ : ∃ hs, hs = r.hash := ⟨_, rfl⟩
      obtain ⟨d, hd⟩ : ∃ d : ByteArray, d = ⟨r.data.toArray⟩ := ⟨_, rfl⟩
      have HHL : Hid (hs.length = 32) := Lib.hid (by rw [hhs]; exact hrok.1)
      have HENC : Hid (encR rs ⟨k, hlt⟩ = #[.agg (rcv at_ hs d).toArray, .int .i64 0]) := Lib.hid (by
        rw [hat, hhs, hd, hrk]
        rfl)
      have HNX : Hid (∀ v, It v b q (rcL r ++ rest) → Calls Tryd.prog 43 #[.pointer (some ⟨b, 0, none⟩), .int .i64 at_] v fun e w' => e = .returned (.tuple #[.agg (rcv at_ hs d).toArray, .int .i64 0]) ∧ Opn (fun k => k = b ∨ q = some k) w' b rest none ∧ Kp (fun k => k = b) v w') := Lib.hid fun v hv => by
        rw [hhs, hd]
        exact next_any r rest at_ hv.o hrok
      have HREST := Lib.hid hrest
      have L0 : Hid (Lv wr wr b q Bb (.slice A nn c) (rcL r ++ rest)) := Lib.hid ⟨HIK.out, HBK.out, Kp.refl _ _, ⟨HIK.out.lt.1, HIK.out.lt.2, HBK.out.lt⟩, by have := HBS.out; have := HBL.out; omega⟩
      have L1 := Lib.hid (L0.out.still (Kp.refl (fun _ => False) wr).drew)
      have hc0 := left_any HIK.out.o
      rw [HLK.out] at hc0
      have HC0 := Lib.hid hc0
      clear hrk hrok hrest hdk hat hlk hhs hd hc0 hall
      go_wp2_with fail
      refine HC0.out.mono ?_
      rintro e w2 ⟨rfl, rfl⟩
      have hlz : decide ((0 : Int) < (lk : Int)) = true := by simpa using hpos
      go_upto_region 2 with fail
      clear hlz
      refine wp_region_held_drew (S := fun v => v.cell? ⟨Bb, 0, none⟩ = some (.slice A nn c)) (by kernel_rfl) ((L1.out.bx.cell 0)) (fun hHeld => ?_)
      generalize wr.drew = v1 at *
      refine tk 0 (h := ?_)
      refine tk 1 (h := ?_)
      refine tk 2 (h := ?_)
      refine tk 3 (h := ?_)
      refine wpAnyH_ready (rs := [4, 10]) (by kernel_rfl) (by simp) ?_
      refine rdc 4 (h := fun K hK => ?_) (hs := rdc 10 (h := fun K hK => ?_) (hs := AllReadyH.nil))
      · go_simp
        have hc := left_any L1.out.it.o
        rw [HLK.out] at hc
        refine hc.mono ?_
        clear hc
        rintro e v2 ⟨rfl, rfl⟩
        go_wp2_with fail
        refine hK.out _ _ ((L1.out.bx.cell 0)) (fun hHeld10 => ?_)
        clear hK K
        try simp only [Act.put, List.setIfInBounds_toArray, List.set_cons_zero, List.set_cons_succ]
        refine tk 5 (h := ?_)
        refine wpAnyH_ready (rs := [6, 10]) (by kernel_rfl) (by simp) ?_
        refine rdc 6 (h := fun K hK => ?_) (hs := rdc 10 (h := fun K hK => ?_) (hs := AllReadyH.nil))
        · go_simp
          try rw [hsub]
          refine (HNX.out _ L1.out.it).mono ?_
          rintro e v3 ⟨rfl, ho, hk⟩
          have L3 := Lib.hid (L1.out.next ho hk)
          clear ho hk
          go_wp2_with fail
          refine hK.out _ _ ((L3.out.bx.cell 0)) (fun hHeld5 => ?_)
          clear hK K
          try simp only [Act.put, List.setIfInBounds_toArray, List.set_cons_zero, List.set_cons_succ]
          refine tk 7 (h := ?_)
          refine tk 8 (h := ?_)
          refine tk 9 (h := ?_)
          refine rd 10 (h := fun K hK => ?_)
          go_simp
          rw [zero_rc]
          obtain ⟨g, hg⟩ : ∃ g, g = v3.heap.size := ⟨_, rfl⟩
          obtain ⟨v4, hv4⟩ : ∃ v, v = v3.alloc (.cells (rcv 0 z32 e0).toArray 49) := ⟨_, rfl⟩
          have G4 : Hid (Box v4 g 49 (rcv 0 z32 e0).toArray) := Lib.hid (by rw [hv4, hg]; exact Box.new _ _ _)
          have L4 := Lib.hid (L3.out.still (by rw [hv4]; exact (Kp.refl _ _).alloc _ : Kp (fun _ => False) v3 v4))
          have HGE : Hid (wr.heap.size ≤ g) := Lib.hid (by rw [hg]; exact L3.out.kp.size)
          rw [← hv4, ← hg]
          clear hv4 hg
          refine hK.out _ _ ((L4.out.bx.cell 0)) (fun hHeld1 => ?_)
          clear hK K
          try simp only [Act.put, List.setIfInBounds_toArray, List.set_cons_zero, List.set_cons_succ]
          refine rd 11 (h := fun K hK => ?_)
          rw [if_pos (by rfl)]
          refine nwp_store_box 49 (.tmp 4) (.tmp 19) rfl g (rcv at_ hs d) rfl rfl G4.out (by rw [List.size_toArray, rcv_len z32_len, rcv_len HHL.out]) (by rw [rcv_len HHL.out]; exact info_rec) (rcv_one _ _ _) ?_
          intro v5 hb5 hk5
          have HG5 := Lib.hid hb5
          have L5 := Lib.hid (L4.out.far HGE.out hk5)
          clear hb5 hk5
          refine hK.out _ _ ((L5.out.bx.cell 0)) (fun hHeld2 => ?_)
          clear hK K
          try simp only [Act.put]
          refine tk 12 (h := ?_)
          refine wpAnyH_done (by kernel_rfl) ?_ _
          have JN := Lib.hid (HJ.out _ _ _ HJK.out (by
            obtain ⟨cs, hcs⟩ := HIK.out.box
            exact Far.one hcs rfl HBS.out L5.out.kp))
          have hyy := HY.out ((List.finRange rs.length).take k) ⟨k, hlt⟩ v5 JN.out (by simp; omega)
          rw [HENC.out] at hyy
          obtain ⟨fn, tmps, assign, body, hy, hR⟩ := hyy
          have HRR := Lib.hid hR
          clear hR hsub hpos
          go_upto_region 3 with fail
          refine (wpIn_wide (n := n)).1 ?_
          gi_wp2_with (first | (refine wpListIn_load_mid rfl 49 (.tmp 4) rfl g 0 rfl (rcv at_ hs d) _ HG5.out.range' Tryd.underlying49 rfl (by rw [rcv_len HHL.out]; exact info_rec) ?_) | fail)
          refine HRR.out.mono ?_
          rintro e W3 (⟨rfl, hJ3, hk3⟩ | ⟨rfl, hJx3⟩)
          · have HJ3 := Lib.hid hJ3
            have I3 := Lib.hid (L5.out.it.near hk3)
            have B3 := Lib.hid (hk3.box L5.out.bx (.inr (.inr rfl)))
            clear hJ3 hk3 hy
            gi_wp2_with fail
            go_wp2_with fail
            go_roundw
            case rel => exact ⟨k + 1, by omega, by rw [fin_take hlt]; exact HJ3.out, by rw [← HREST.out]; exact I3.out, B3.out⟩
            case measure =>
              show leftN _ _ < leftN _ _
              rw [I3.out.left, HIK.out.left, HLK.out]
              exact HRL.out
          · have HJ3 := Lib.hid hJx3
            clear hJx3 hy
            gi_wp2_with fail
            go_wp2_with fail
            refine bodyPost_ret (results_none rfl _ _ _) rfl ?_
            exact ⟨⟨_, rfl⟩, .inr ⟨_, ⟨k + 1, by omega, (fin_take hlt).symm⟩, HJ3.out⟩⟩
        · go_simp
          rw [zero_rc]
          obtain ⟨g, hg⟩ : ∃ g, g = v1.heap.size := ⟨_, rfl⟩
          obtain ⟨v3, hv3⟩ : ∃ v, v = v1.alloc (.cells (rcv 0 z32 e0).toArray 49) := ⟨_, rfl⟩
          have G3 : Hid (Box v3 g 49 (rcv 0 z32 e0).toArray) := Lib.hid (by rw [hv3, hg]; exact Box.new _ _ _)
          have L3 := Lib.hid (L1.out.still (by rw [hv3]; exact (Kp.refl _ _).alloc _ : Kp (fun _ => False) v1 v3))
          have HGE : Hid (wr.heap.size ≤ g) := Lib.hid (by rw [hg]; exact L1.out.kp.size)
          rw [← hv3, ← hg]
          clear hv3 hg
          refine hK.out _ _ ((L3.out.bx.cell 0)) (fun hHeld6 => ?_)
          clear hK K
          try simp only [Act.put, List.setIfInBounds_toArray, List.set_cons_zero, List.set_cons_succ]
          refine rd 6 (h := fun K hK => ?_)
          go_simp
          try rw [hsub]
          refine (HNX.out _ L3.out.it).mono ?_
          rintro e v4 ⟨rfl, ho, hk⟩
          have L4 := Lib.hid (L3.out.next ho hk)
          have G4 := Lib.hid (G3.out.kp hk (fun e => by have := HGE.out; have := L0.out.lt.1; omega))
          clear ho hk
          go_wp2_with fail
          refine hK.out _ _ ((L4.out.bx.cell 0)) (fun hHeld3 => ?_)
          clear hK K
          try simp only [Act.put, List.setIfInBounds_toArray, List.set_cons_zero, List.set_cons_succ]
          refine tk 7 (h := ?_)
          refine tk 8 (h := ?_)
          refine tk 9 (h := ?_)
          refine rd 11 (h := fun K hK => ?_)
          rw [if_pos (by rfl)]
          refine nwp_store_box 49 (.tmp 4) (.tmp 19) rfl g (rcv at_ hs d) rfl rfl G4.out (by rw [List.size_toArray, rcv_len z32_len, rcv_len HHL.out]) (by rw [rcv_len HHL.out]; exact info_rec) (rcv_one _ _ _) ?_
          intro v5 hb5 hk5
          have HG5 := Lib.hid hb5
          have L5 := Lib.hid (L4.out.far HGE.out hk5)
          clear hb5 hk5
          refine hK.out _ _ ((L5.out.bx.cell 0)) (fun hHeld4 => ?_)
          clear hK K
          try simp only [Act.put]
          refine tk 12 (h := ?_)
          refine wpAnyH_done (by kernel_rfl) ?_ _
          have JN := Lib.hid (HJ.out _ _ _ HJK.out (by
            obtain ⟨cs, hcs⟩ := HIK.out.box
            exact Far.one hcs rfl HBS.out L5.out.kp))
          have hyy := HY.out ((List.finRange rs.length).take k) ⟨k, hlt⟩ v5 JN.out (by simp; omega)
          rw [HENC.out] at hyy
          obtain ⟨fn, tmps, assign, body, hy, hR⟩ := hyy
          have HRR := Lib.hid hR
          clear hR hsub hpos
          go_upto_region 3 with fail
          refine (wpIn_wide (n := n)).1 ?_
          gi_wp2_with (first | (refine wpListIn_load_mid rfl 49 (.tmp 4) rfl g 0 rfl (rcv at_ hs d) _ HG5.out.range' Tryd.underlying49 rfl (by rw [rcv_len HHL.out]; exact info_rec) ?_) | fail)
          refine HRR.out.mono ?_
          rintro e W3 (⟨rfl, hJ3, hk3⟩ | ⟨rfl, hJx3⟩)
          · have HJ3 := Lib.hid hJ3
            have I3 := Lib.hid (L5.out.it.near hk3)
            have B3 := Lib.hid (hk3.box L5.out.bx (.inr (.inr rfl)))
            clear hJ3 hk3 hy
            gi_wp2_with fail
            go_wp2_with fail
            go_roundw
            case rel => exact ⟨k + 1, by omega, by rw [fin_take hlt]; exact HJ3.out, by rw [← HREST.out]; exact I3.out, B3.out⟩
            case measure =>
              show leftN _ _ < leftN _ _
              rw [I3.out.left, HIK.out.left, HLK.out]
              exact HRL.out
          · have HJ3 := Lib.hid hJx3
            clear hJx3 hy
            gi_wp2_with fail
            go_wp2_with fail
            refine bodyPost_ret (results_none rfl _ _ _) rfl ?_
            exact ⟨⟨_, rfl⟩, .inr ⟨_, ⟨k + 1, by omega, (fin_take hlt).symm⟩, HJ3.out⟩⟩
      · go_simp
        rw [zero_rc]
        obtain ⟨g, hg⟩ : ∃ g, g = v1.heap.size := ⟨_, rfl⟩
        obtain ⟨v2, hv2⟩ : ∃ v, v = v1.alloc (.cells (rcv 0 z32 e0).toArray 49) := ⟨_, rfl⟩
        have G2 : Hid (Box v2 g 49 (rcv 0 z32 e0).toArray) := Lib.hid (by rw [hv2, hg]; exact Box.new _ _ _)
        have L2 := Lib.hid (L1.out.still (by rw [hv2]; exact (Kp.refl _ _).alloc _ : Kp (fun _ => False) v1 v2))
        have HGE : Hid (wr.heap.size ≤ g) := Lib.hid (by rw [hg]; exact L1.out.kp.size)
        rw [← hv2, ← hg]
        clear hv2 hg
        refine hK.out _ _ ((L2.out.bx.cell 0)) (fun hHeld11 => ?_)
        clear hK K
        try simp only [Act.put, List.setIfInBounds_toArray, List.set_cons_zero, List.set_cons_succ]
        refine rd 4 (h := fun K hK => ?_)
        go_simp
        have hc := left_any L2.out.it.o
        rw [HLK.out] at hc
        refine hc.mono ?_
        clear hc
        rintro e v2 ⟨rfl, rfl⟩
        go_wp2_with fail
        refine hK.out _ _ ((L2.out.bx.cell 0)) (fun hHeld7 => ?_)
        clear hK K
        try simp only [Act.put, List.setIfInBounds_toArray, List.set_cons_zero, List.set_cons_succ]
        refine tk 5 (h := ?_)
        refine rd 6 (h := fun K hK => ?_)
        go_simp
        try rw [hsub]
        refine (HNX.out _ L2.out.it).mono ?_
        rintro e v3 ⟨rfl, ho, hk⟩
        have L3 := Lib.hid (L2.out.next ho hk)
        have G3 := Lib.hid (G2.out.kp hk (fun e => by have := HGE.out; have := L0.out.lt.1; omega))
        clear ho hk
        go_wp2_with fail
        refine hK.out _ _ ((L3.out.bx.cell 0)) (fun hHeld8 => ?_)
        clear hK K
        try simp only [Act.put, List.setIfInBounds_toArray, List.set_cons_zero, List.set_cons_succ]
        refine tk 7 (h := ?_)
        refine tk 8 (h := ?_)
        refine tk 9 (h := ?_)
        refine rd 11 (h := fun K hK => ?_)
        rw [if_pos (by rfl)]
        refine nwp_store_box 49 (.tmp 4) (.tmp 19) rfl g (rcv at_ hs d) rfl rfl G3.out (by rw [List.size_toArray, rcv_len z32_len, rcv_len HHL.out]) (by rw [rcv_len HHL.out]; exact info_rec) (rcv_one _ _ _) ?_
        intro v5 hb5 hk5
        have HG5 := Lib.hid hb5
        have L5 := Lib.hid (L3.out.far HGE.out hk5)
        clear hb5 hk5
        refine hK.out _ _ ((L5.out.bx.cell 0)) (fun hHeld9 => ?_)
        clear hK K
        try simp only [Act.put]
        refine tk 12 (h := ?_)
        refine wpAnyH_done (by kernel_rfl) ?_ _
        have JN := Lib.hid (HJ.out _ _ _ HJK.out (by
          obtain ⟨cs, hcs⟩ := HIK.out.box
          exact Far.one hcs rfl HBS.out L5.out.kp))
        have hyy := HY.out ((List.finRange rs.length).take k) ⟨k, hlt⟩ v5 JN.out (by simp; omega)
        rw [HENC.out] at hyy
        obtain ⟨fn, tmps, assign, body, hy, hR⟩ := hyy
        have HRR := Lib.hid hR
        clear hR hsub hpos
        go_upto_region 3 with fail
        refine (wpIn_wide (n := n)).1 ?_
        gi_wp2_with (first | (refine wpListIn_load_mid rfl 49 (.tmp 4) rfl g 0 rfl (rcv at_ hs d) _ HG5.out.range' Tryd.underlying49 rfl (by rw [rcv_len HHL.out]; exact info_rec) ?_) | fail)
        refine HRR.out.mono ?_
        rintro e W3 (⟨rfl, hJ3, hk3⟩ | ⟨rfl, hJx3⟩)
        · have HJ3 := Lib.hid hJ3
          have I3 := Lib.hid (L5.out.it.near hk3)
          have B3 := Lib.hid (hk3.box L5.out.bx (.inr (.inr rfl)))
          clear hJ3 hk3 hy
          gi_wp2_with fail
          go_wp2_with fail
          go_roundw
          case rel => exact ⟨k + 1, by omega, by rw [fin_take hlt]; exact HJ3.out, by rw [← HREST.out]; exact I3.out, B3.out⟩
          case measure =>
            show leftN _ _ < leftN _ _
            rw [I3.out.left, HIK.out.left, HLK.out]
            exact HRL.out
        · have HJ3 := Lib.hid hJx3
          clear hJx3 hy
          gi_wp2_with fail
          go_wp2_with fail
          refine bodyPost_ret (results_none rfl _ _ _) rfl ?_
          exact ⟨⟨_, rfl⟩, .inr ⟨_, ⟨k + 1, by omega, (fin_take hlt).symm⟩, HJ3.out⟩⟩
    · have hkk : k = rs.length := by omega
      have hdk : rcsL (rs.drop k) = [] := by rw [hkk, List.drop_length]; rfl
      rw [hdk] at HIK
      have hc0 := left_any HIK.out.o
      rw [List.length_nil] at hc0
      have HC0 := Lib.hid hc0
      have HKK := Lib.hid hkk
      clear hdk hc0 hkk hlt
      go_wp2_with fail
      refine HC0.out.mono ?_
      rintro e w2 ⟨rfl, rfl⟩
      go_wp2_with fail
      go_end0
      refine ⟨⟨_, rfl⟩, .inl ⟨_, rfl, ?_⟩⟩
      have := HJK.out
      rwa [HKK.out, List.take_of_length_le (by simp)] at this
end Go.Proofs.YtcgfnfejacgaeaaDoor
