/- The document's own disk, as the statements bear it: rows that are never written once they are shared. No condition. -/
import Derived.Test.YtfcljcikajaedaaGreatDoorMg13
namespace Go.Proofs.YtfcljcikajaedaaGreatDoor
open Go.RowKit Go.Maps

/-- A row, read alone. -/
def RdR (w : World) (t : TypeId) (size : Nat) (v : Value) (n : Nat) (xs : List Value) : Prop :=
  xs.length = n * size ∧ ∃ A cap, v = .slice A n cap ∧ n ≤ cap ∧ (n = 0 ∨ ∃ (b : Nat) (cur : Array Value), A = some ⟨b, 0, none⟩ ∧ Box w b t cur ∧ ∀ (j : Nat) (x : Value), xs[j]? = some x → cur[j]? = some x)
theorem RdR.nil (w : World) (t : TypeId) (size : Nat) : RdR w t size (.slice none 0 0) 0 [] := ⟨by simp, none, 0, rfl, Nat.le_refl _, .inl rfl⟩
theorem RdR.of_own {w : World} {base : Nat} {t : TypeId} {size n : Nat} {v : Value} {xs : List Value} (h : w.ownsRow base t size v n xs) : RdR w t size v n xs := by
  refine ⟨h.1, ?_⟩
  rcases h.2 with ⟨rfl, rfl⟩ | ⟨g, cap, cur, rfl, _, hg, hnc, _, hsz, ht⟩
  · exact ⟨none, 0, rfl, Nat.le_refl _, .inl rfl⟩
  · refine ⟨_, cap, rfl, hnc, .inr ⟨g, cur, rfl, hg, fun j x hx => ?_⟩⟩
    rw [← ht, List.getElem?_take] at hx
    split at hx
    · simpa using hx
    · cases hx
theorem RdR.kp {S : Nat → Prop} {w w' : World} {t : TypeId} {size n : Nat} {v : Value} {xs : List Value} (h : RdR w t size v n xs) (hk : Kp S w w') (hn : ∀ k cs fr, w.heap[k]? = some (.cells cs t fr) → ¬ S k) : RdR w' t size v n xs := by
  obtain ⟨h1, A, cap, hv, hc, h2⟩ := h
  refine ⟨h1, A, cap, hv, hc, ?_⟩
  rcases h2 with h2 | ⟨b, cur, hA, hb, hx⟩
  · exact .inl h2
  · exact .inr ⟨b, cur, hA, hb.kp hk (hn b _ _ hb), hx⟩
/-- The cells of the row, where it has some. -/
theorem RdR.cell {w : World} {t : TypeId} {size n : Nat} {v : Value} {xs : List Value} (h : RdR w t size v n xs) (hn : 0 < n) : ∃ b cap, v = .slice (some ⟨b, 0, none⟩) n cap ∧ n ≤ cap ∧ ∀ j x, xs[j]? = some x → w.cell? ⟨b, j, none⟩ = some x := by
  obtain ⟨_, A, cap, hv, hc, h2⟩ := h
  rcases h2 with h2 | ⟨b, cur, rfl, hb, hx⟩
  · omega
  · exact ⟨b, cap, hv, hc, fun j x hj => by rw [hb.cell]; exact hx j x hj⟩
theorem strs_one (l : List (List UInt8)) : ∀ u ∈ strs l, u.oneCell' = true := fun u hu => by
  obtain ⟨_, _, rfl⟩ := List.mem_map.1 hu
  rfl
/-- Writes that wait, as pairs. -/
def prs (l : List (Nat × List UInt8)) : List Value := l.flatMap fun x => [.int .i64 x.1, .string ⟨x.2.toArray⟩]
theorem prs_length (l : List (Nat × List UInt8)) : (prs l).length = l.length * 2 := by
  induction l with
  | nil => rfl
  | cons x r ih => simp only [prs, List.flatMap_cons, List.length_append, List.length_cons, List.length_nil] at ih ⊢; omega
theorem prs_snoc (l : List (Nat × List UInt8)) (x : Nat × List UInt8) : prs (l ++ [x]) = prs l ++ [.int .i64 x.1, .string ⟨x.2.toArray⟩] := by simp [prs]
theorem prs_get (l : List (Nat × List UInt8)) (k : Nat) (x : Nat × List UInt8) (hk : l[k]? = some x) : (prs l)[k * 2]? = some (.int .i64 x.1) ∧ (prs l)[k * 2 + 1]? = some (.string ⟨x.2.toArray⟩) := by
  induction l generalizing k with
  | nil => simp at hk
  | cons y r ih =>
    cases k with
    | zero => cases hk; exact ⟨rfl, rfl⟩
    | succ k =>
      have := ih k (by simpa using hk)
      have e : prs (y :: r) = .int .i64 y.1 :: .string ⟨y.2.toArray⟩ :: prs r := rfl
      rw [e, show (k + 1) * 2 = k * 2 + 1 + 1 by omega]
      simpa using this
/-- The document's disk reads as d. -/
def leftZ (d : Dm) : Int := if d.lit then (d.left : Int) else -1
def rcs (d : Dm) (vo vw : Value) : Array Value := #[vo, vw, .bool (!d.power), .int .i64 (leftZ d), .string ⟨d.keep.toArray⟩, .int .u64 d.acts]
structure Rf (w : World) (vo vw : Value) (d : Dm) : Prop where
  on : RdR w 9 1 vo d.on.length (strs d.on)
  wt : RdR w 142 2 vw d.wait.length (prs d.wait)
def Ref (w : World) (v : Value) (d : Dm) : Prop := ∃ vo vw, v = .agg (rcs d vo vw) ∧ Rf w vo vw d
section
variable {w w' : World} {vo vw v : Value} {d : Dm}
theorem Rf.kp {S : Nat → Prop} (h : Rf w vo vw d) (hk : Kp S w w') (hn : ∀ k cs fr, (w.heap[k]? = some (.cells cs 9 fr) ∨ w.heap[k]? = some (.cells cs 142 fr)) → ¬ S k) : Rf w' vo vw d :=
  ⟨h.on.kp hk fun k cs fr e => hn k cs fr (.inl e), h.wt.kp hk fun k cs fr e => hn k cs fr (.inr e)⟩
theorem Rf.still (h : Rf w vo vw d) (hk : Kp (fun _ => False) w w') : Rf w' vo vw d := h.kp hk fun _ _ _ _ h => h
theorem Rf.dt {B : Nat} (h : Rf w vo vw d) (hk : Kp (fun k => B ≤ k ∧ DT w k) w w') : Rf w' vo vw d := h.kp hk fun k cs fr e hh => by
  rcases e with e | e
  · exact not_DT e ⟨by decide, by decide, by decide⟩ hh.2
  · exact not_DT e ⟨by decide, by decide, by decide⟩ hh.2
theorem Ref.still (h : Ref w v d) (hk : Kp (fun _ => False) w w') : Ref w' v d := by
  obtain ⟨vo, vw, hv, hr⟩ := h
  exact ⟨vo, vw, hv, hr.still hk⟩
theorem Ref.dt {B : Nat} (h : Ref w v d) (hk : Kp (fun k => B ≤ k ∧ DT w k) w w') : Ref w' v d := by
  obtain ⟨vo, vw, hv, hr⟩ := h
  exact ⟨vo, vw, hv, hr.dt hk⟩
end
end Go.Proofs.YtfcljcikajaedaaGreatDoor
