/- The document's own map: a row of bools; what Set, Find answer. Condition: 1 to 1024 pages. -/
import Derived.Test.YtlhfdoaknfgemaaDoorBtFind
import Derived.Test.YtlhfdoaknfgemaaDoorBtBytes
import Derived.Deep.DeepMust
namespace Go.Proofs.YtlhfdoaknfgemaaDoor
open Go.RowKit

def bls (l : List Bool) : List Value := l.map Value.bool
theorem bls_length (l : List Bool) : (bls l).length = l.length := by simp [bls]
theorem bls_get (l : List Bool) (j : Nat) : (bls l)[j]? = (l[j]?).map Value.bool := by simp [bls]
theorem bls_one (l : List Bool) : ∀ u ∈ bls l, u.oneCell' = true := by
  intro u hu
  obtain ⟨_, _, rfl⟩ := List.mem_map.1 hu
  rfl
/-- A row of bools in its block. -/
def RdM (w : World) (g : Nat) (l : List Bool) : Prop := ∃ cur : Array Value, Box w g 4 cur ∧ ∀ (j : Nat) (u : Bool), l[j]? = some u → cur[j]? = some (Value.bool u)
section
variable {S : Nat → Prop} {w w' : World} {g : Nat} {l : List Bool}
theorem RdM.kp (h : RdM w g l) (hk : Kp S w w') (hn : ¬ S g) : RdM w' g l := by
  obtain ⟨cur, hb, hc⟩ := h
  exact ⟨cur, hb.kp hk hn, hc⟩
theorem RdM.lt (h : RdM w g l) : g < w.heap.size := by
  obtain ⟨cur, hb, _⟩ := h
  exact hb.lt
theorem RdM.cell (h : RdM w g l) (j : Nat) (hj : j < l.length) : w.cell? ⟨g, j, none⟩ = some (.bool (l.getD j false)) := by
  obtain ⟨cur, hb, hc⟩ := h
  rw [hb.cell]
  refine hc j _ ?_
  rw [List.getD_eq_getElem?_getD, List.getElem?_eq_getElem hj]; rfl
theorem RdM.free (h : RdM w g l) (j : Nat) : w.frozen? ⟨g, j, none⟩ = false := by
  obtain ⟨cur, hb, _⟩ := h
  exact hb.free j
theorem RdM.put (h : RdM w g l) (j : Nat) (u : Bool) : RdM (w.setCell ⟨g, j, none⟩ (.bool u)) g (l.set j u) := by
  obtain ⟨cur, hb, hc⟩ := h
  refine ⟨_, hb.put j (.bool u), fun k v hk => ?_⟩
  rw [List.getElem?_set] at hk
  by_cases hj : j = k
  · subst hj
    rw [if_pos rfl] at hk
    by_cases hl : j < l.length
    · rw [if_pos hl] at hk
      have h1 : j < cur.size := (Array.getElem?_eq_some_iff.1 (hc j _ (List.getElem?_eq_getElem hl))).1
      cases hk
      rw [Array.getElem?_setIfInBounds, if_pos rfl, if_pos h1]
    · rw [if_neg hl] at hk; cases hk
  · rw [if_neg hj] at hk
    rw [Array.getElem?_setIfInBounds, if_neg hj]
    exact hc k v hk
theorem RdM.far (h : RdM w g l) {p : Addr} (hp : g ≠ p.block) (u : Value) : RdM (w.setCell p u) g l := by
  obtain ⟨cur, hb, hc⟩ := h
  exact ⟨cur, hb.far hp u, hc⟩
theorem RdM.alloc (h : RdM w g l) (o : Obj) : RdM (w.alloc o) g l := by
  obtain ⟨cur, hb, hc⟩ := h
  exact ⟨cur, hb.alloc o, hc⟩
theorem RdM.new (w : World) (l : List Bool) : RdM (w.alloc (.cells (bls l).toArray 4)) w.heap.size l :=
  ⟨_, Box.new w _ _, fun j u hj => by rw [List.getElem?_toArray, bls_get, hj]; rfl⟩
end
theorem rdm_own {w : World} {base g n cp : Nat} {l : List Bool} (h : w.ownsRow base 4 1 (.slice (some ⟨g, 0, none⟩) n cp) n (bls l)) : RdM w g l ∧ base ≤ g := by
  rcases h.2 with ⟨h0, _⟩ | ⟨g', cap, cur, hv, hb, hh, hnc, hc, hsz, ht⟩
  · cases h0
  · injection hv with h1 h2 h3
    injection h1 with h1
    injection h1 with h1
    subst h1
    refine ⟨⟨cur, hh, fun j u hj => ?_⟩, hb⟩
    have e : (bls l)[j]? = some (.bool u) := by rw [bls_get, hj]; rfl
    rw [← ht, List.getElem?_take] at e
    split at e
    · simpa using e
    · cases e
theorem own_some {w1 : World} {B : Nat} {e : TypeId} {v' : Value} {n : Nat} {xs : List Value} (hn : 0 < n) (h : w1.ownsRow B e 1 v' (0 + n) ([] ++ xs)) : ∃ g cp, v' = .slice (some ⟨g, 0, none⟩) n cp ∧ w1.ownsRow B e 1 (.slice (some ⟨g, 0, none⟩) n cp) n xs := by
  rw [Nat.zero_add, List.nil_append] at h
  rcases h.2 with ⟨_, h0⟩ | ⟨g, cp, cur, hv, _⟩
  · omega
  · subst hv
    exact ⟨g, cp, rfl, h⟩
/-- The row, of which one is used, or not. -/
def setB (l : List Bool) (i : Int) (u : Bool) : List Bool := if pgB l.length i then l.set i.toNat u else l
theorem setB_length (l : List Bool) (i : Int) (u : Bool) : (setB l i u).length = l.length := by
  unfold setB; split <;> simp
/-- A new row of bools is answered. -/
def NewM (w : World) (n : Nat) (l : List Bool) (e : Ending) (w' : World) : Prop := ∃ g' c', e = .returned (.slice (some ⟨g', 0, none⟩) n c') ∧ RdM w' g' l ∧ w.heap.size ≤ g' ∧ Kp (fun _ => False) w w'
set_option maxRecDepth 100000 in
set_option maxHeartbeats 1000000 in
theorem rset_any (g c : Nat) (l : List Bool) (i : Int) (u : Bool) (w : World) (hm : RdM w g l) (h1 : 1 ≤ l.length) (h2 : l.length ≤ 1024) :
    Calls Tryd.prog 10 #[.slice (some ⟨g, 0, none⟩) l.length c, .int .i64 i, .bool u] w (NewM w l.length (setB l i u)) := by
  obtain ⟨iB, s1, s2, s3, s4⟩ := info_parts0 infoBool
  have HM := Lib.hid hm
  have HC : Hid (∀ j x, (bls l)[j]? = some x → w.cell? ((⟨g, 0, none⟩ : Addr).add j) = some x) := Lib.hid fun j x hx => by
    have hj : j < l.length := by have := (List.getElem?_eq_some_iff.1 hx).1; rwa [bls_length] at this
    rw [Addr.add_mid, Nat.zero_add, hm.cell j hj, ← hx, bls_get, List.getD_eq_getElem?_getD, List.getElem?_eq_getElem hj]; rfl
  obtain ⟨n, hn⟩ : ∃ n, l.length = n := ⟨_, rfl⟩
  have HN := Lib.hid hn
  have hpg : Hid (setB l i u = if pgB n i then l.set i.toNat u else l) := Lib.hid (by rw [← hn]; rfl)
  rw [hn] at h1 h2 ⊢
  clear hm hn
  have go : ∀ b, pgB n i = b → Calls Tryd.prog 10 #[.slice (some ⟨g, 0, none⟩) n c, .int .i64 i, .bool u] w (NewM w n (if b then l.set i.toNat u else l)) := by
    intro b hb
    rcases b with _ | _
    · rcases Int.lt_or_le i 0 with h0 | h0
      · clear hb
        go_enter Tryd.func10, Tryd.ntmps10
        go_wp2_with (first | (at_builtin; go_must (refine wpList_append_own _ rfl (.const (.slice none 0 0)) (.tmp 8) 33 rfl w.heap.size 4 iB (.bool false) 1 1 Tryd.underlying33 s1 s2 s3 s4 rfl (by decide) _ 0 [] rfl (World.ownsRow_nil _ _ _ _) ⟨g, 0, none⟩ n c (bls l) rfl (by rw [bls_length, HN.out, Nat.mul_one]) HC.out (bls_one _) (by simp only [maxLen]; omega) (by omega) (Nat.le_refl _) ?_; intro v1 w1 hown hgr _; obtain ⟨g1, c1, hv1, ho1⟩ := own_some (by omega) hown; subst hv1; have MQ := Lib.hid (rdm_own ho1).1; have HB := Lib.hid (rdm_own ho1).2; have KQ := Lib.hid ((Kp.refl (fun _ => False) w).grown hgr (fun k e => by cases e)); clear hown hgr ho1)) | fail)
        go_ret
        exact ⟨_, _, rfl, MQ.out, HB.out, KQ.out⟩
      · have h3 : ¬ i < n := by
          intro h; rw [pgB_true h0 h] at hb; cases hb
        clear hb
        go_enter Tryd.func10, Tryd.ntmps10
        go_wp2_with (first | (at_builtin; go_must (refine wpList_append_own _ rfl (.const (.slice none 0 0)) (.tmp 8) 33 rfl w.heap.size 4 iB (.bool false) 1 1 Tryd.underlying33 s1 s2 s3 s4 rfl (by decide) _ 0 [] rfl (World.ownsRow_nil _ _ _ _) ⟨g, 0, none⟩ n c (bls l) rfl (by rw [bls_length, HN.out, Nat.mul_one]) HC.out (bls_one _) (by simp only [maxLen]; omega) (by omega) (Nat.le_refl _) ?_; intro v1 w1 hown hgr _; obtain ⟨g1, c1, hv1, ho1⟩ := own_some (by omega) hown; subst hv1; have MQ := Lib.hid (rdm_own ho1).1; have HB := Lib.hid (rdm_own ho1).2; have KQ := Lib.hid ((Kp.refl (fun _ => False) w).grown hgr (fun k e => by cases e)); clear hown hgr ho1)) | fail)
        go_ret
        exact ⟨_, _, rfl, MQ.out, HB.out, KQ.out⟩
    · obtain ⟨h0, h3⟩ : 0 ≤ i ∧ i < n := by simpa [pgB] using hb
      clear hb
      obtain ⟨k, rfl⟩ := Int.eq_ofNat_of_zero_le h0
      have hk : k < n := by omega
      go_enter Tryd.func10, Tryd.ntmps10
      go_upto_region 2 with (first | (at_builtin; go_must (refine wpList_append_own _ rfl (.const (.slice none 0 0)) (.tmp 8) 33 rfl w.heap.size 4 iB (.bool false) 1 1 Tryd.underlying33 s1 s2 s3 s4 rfl (by decide) _ 0 [] rfl (World.ownsRow_nil _ _ _ _) ⟨g, 0, none⟩ n c (bls l) rfl (by rw [bls_length, HN.out, Nat.mul_one]) HC.out (bls_one _) (by simp only [maxLen]; omega) (by omega) (Nat.le_refl _) ?_; intro v1 w1 hown hgr _; obtain ⟨g1, c1, hv1, ho1⟩ := own_some (by omega) hown; subst hv1; have MQ := Lib.hid (rdm_own ho1).1; have HB := Lib.hid (rdm_own ho1).2; have KQ := Lib.hid ((Kp.refl (fun _ => False) w).grown hgr (fun k e => by cases e)); clear hown hgr ho1)) | fail)
      have hc := MQ.out.cell k (by rw [HN.out]; exact hk)
      have hf := MQ.out.free k
      go_wp2_with fail
      go_ret
      exact ⟨_, _, rfl, MQ.out.put k u, HB.out, KQ.out.setCell (p := ⟨g1, k, none⟩) (.inl HB.out) _⟩
  rw [hpg.out]
  exact go _ rfl
end Go.Proofs.YtlhfdoaknfgemaaDoor
