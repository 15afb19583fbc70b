/- A block's words told beforehand, and checked; the hash of a short text, of a long row of one byte. No condition. -/
import Derived.Test.YtbchfpcdmkldeaaDoorShaNat
import Derived.Test.YtbchfpcdmkldeaaDoorShaKnow
namespace Go.Proofs.YtbchfpcdmkldeaaDoor

def kN (i : Nat) : Nat := (kList.getD i 0).toNat
theorem kN_eq (i : Nat) (hi : i < 64) : kZ i = kN i := by
  have h : ∀ i : Fin 64, kZ i.val = kN i.val := by decide +kernel
  exact h ⟨i, hi⟩
def s0N (x : Nat) : Nat := ((x * 4294967297) >>> 7 % 4294967296) ^^^ ((x * 4294967297) >>> 18 % 4294967296) ^^^ (x / 8)
def s1N (x : Nat) : Nat := ((x * 4294967297) >>> 17 % 4294967296) ^^^ ((x * 4294967297) >>> 19 % 4294967296) ^^^ (x / 1024)
theorem s0_nat (x : Nat) (hx : x < 4294967296) : s0Z x = s0N x := by
  have m : ∀ y : Nat, y % 4294967296 < 4294967296 := fun y => Nat.mod_lt _ (by decide)
  have e : (x : Int) / 8 = ((x / 8 : Nat) : Int) := by omega
  rw [s0Z, rot_nat x 7 hx (by decide), rot_nat x 18 hx (by decide), e, u32_xor_nat _ _ (m _) (m _), u32_xor_nat _ _ (xor_lt _ _ (m _) (m _)) (by omega)]
  rfl
theorem s1_nat (x : Nat) (hx : x < 4294967296) : s1Z x = s1N x := by
  have m : ∀ y : Nat, y % 4294967296 < 4294967296 := fun y => Nat.mod_lt _ (by decide)
  have e : (x : Int) / 1024 = ((x / 1024 : Nat) : Int) := by omega
  rw [s1Z, rot_nat x 17 hx (by decide), rot_nat x 19 hx (by decide), e, u32_xor_nat _ _ (m _) (m _), u32_xor_nat _ _ (xor_lt _ _ (m _) (m _)) (by omega)]
  rfl
/-- The check. -/
def certB (l : List UInt8) (W kws : List Nat) : Bool :=
  decide (kws.length = 64) && W.all (fun x => decide (x < 4294967296)) && (List.range 16).all (fun i => decide (wf l (4 * i) 4 = W.getD i 0)) &&
  (List.range 48).all (fun i => decide (W.getD (i + 16) 0 = (W.getD i 0 + ((s0N (W.getD (i + 1) 0) + W.getD (i + 9) 0) % 4294967296 + s1N (W.getD (i + 14) 0)) % 4294967296) % 4294967296)) &&
  (List.range 64).all (fun i => decide (kws[i]? = some ((kN i + W.getD i 0) % 4294967296)))
theorem cert_of {l : List UInt8} {W kws : List Nat} (h : certB l W kws = true) : Cert l kws := by
  simp only [certB, Bool.and_eq_true, List.all_eq_true, decide_eq_true_eq, List.mem_range] at h
  obtain ⟨⟨⟨⟨h1, h2⟩, h3⟩, h4⟩, h5⟩ := h
  have hlt : ∀ i, W.getD i 0 < 4294967296 := fun i => by
    rw [List.getD_eq_getElem?_getD]
    cases hq : W[i]? with
    | none => simp
    | some x => exact h2 x (List.mem_of_getElem? hq)
  have hw : ∀ i, i < 64 → wZ (wordZ l) i = W.getD i 0 := by
    intro i
    induction i using Nat.strongRecOn with
    | _ i ih =>
      intro hi
      rcases Nat.lt_or_ge i 16 with h16 | h16
      · rw [wZ_small _ _ h16, wordZ_eq, h3 i h16]
      · obtain ⟨m, rfl⟩ : ∃ m, i = m + 16 := ⟨i - 16, by omega⟩
        rw [wZ_big, ih m (by omega) (by omega), ih (m + 1) (by omega) (by omega), ih (m + 9) (by omega) (by omega), ih (m + 14) (by omega) (by omega), s0_nat _ (hlt _), s1_nat _ (hlt _), h4 m (by omega)]
        simp only [addZ]
        omega
  exact ⟨h1, fun i hi => ⟨kN i, W.getD i 0, kN_eq i hi, hw i hi, h5 i hi⟩⟩

theorem foldB_zero (s : St) (L : List UInt8) : foldB s L 0 = s := rfl
theorem foldB_range (s : St) (L : List UInt8) (m : Nat) : foldB s L m = (List.range m).foldl (fun s k => s.block kZ (blkAt L k)) s := by
  have h : (List.finRange m).map (fun k => k.1) = List.range m := List.ext_getElem (by simp) (fun i h1 h2 => by simp)
  rw [foldB, ← h, List.foldl_map]
theorem foldB_succ (s : St) (L : List UInt8) (m : Nat) : foldB s L (m + 1) = (foldB s L m).block kZ (blkAt L m) := by
  rw [foldB_range, foldB_range, List.range_succ, List.foldl_append]
  rfl
theorem blkAt_all (E : List UInt8) (h : E.length = 64) : blkAt E 0 = E := by
  rw [blkAt, Nat.mul_zero, List.drop_zero, List.take_of_length_le (by omega)]
def h0N : StN := ⟨1779033703, 3144134277, 1013904242, 2773480762, 1359893119, 2600822924, 528734635, 1541459225⟩
theorem h0_z : h0Z = h0N.z := rfl
theorem h0_ok : h0N.ok := by constructor <;> decide
theorem iter_succ (kws : List Nat) (n : Nat) : ∀ s, iterN kws (n + 1) s = blkN kws (iterN kws n s) := by
  induction n with
  | zero => exact fun s => rfl
  | succ n ih => exact fun s => ih (blkN kws s)
theorem iter_add (kws : List Nat) (m n : Nat) (s : StN) : iterN kws (m + n) s = iterN kws n (iterN kws m s) := by
  induction n with
  | zero => rfl
  | succ n ih => rw [show m + (n + 1) = m + n + 1 by omega, iter_succ, ih, iter_succ]
theorem iter_ok (kws : List Nat) (n : Nat) : ∀ s : StN, s.ok → (iterN kws n s).ok := by
  induction n with
  | zero => exact fun s h => h
  | succ n ih => exact fun s _ => ih _ (plus_ok _ _)
/-- A text of at most 55 bytes: one block. -/
theorem sha_one {l E : List UInt8} {kws : List Nat} {t : StN} (hl : l.length / 64 = 0) (hE : endL l = E) (h64 : E.length = 64) (hc : Cert E kws) (ht : blks kws 1 h0N.a h0N.b h0N.c h0N.d h0N.e h0N.f h0N.g h0N.h (is8 t) = true) : shaZ l = t.z := by
  rw [shaZ, hl, hE, h64, foldB_zero, h0_z]
  show foldB _ _ 1 = _
  rw [foldB_succ, foldB_zero, blkAt_all E h64, hc.block _ h0_ok, ← iter_of kws 1 h0N t ht]
  rfl
/-- A text of 56 to 63 bytes: two blocks. -/
theorem sha_two {l E1 E2 : List UInt8} {kw1 kw2 : List Nat} {t1 t : StN} (hl : l.length / 64 = 0) (hE : endL l = E1 ++ E2) (h1 : E1.length = 64) (h2 : E2.length = 64) (hc1 : Cert E1 kw1) (hc2 : Cert E2 kw2)
    (ht1 : blks kw1 1 h0N.a h0N.b h0N.c h0N.d h0N.e h0N.f h0N.g h0N.h (is8 t1) = true) (ht : blks kw2 1 t1.a t1.b t1.c t1.d t1.e t1.f t1.g t1.h (is8 t) = true) : shaZ l = t.z := by
  rw [shaZ, hl, hE, List.length_append, h1, h2, foldB_zero, h0_z]
  show foldB _ _ (1 + 1) = _
  have e1 : blkAt (E1 ++ E2) 0 = E1 := by
    rw [blkAt, Nat.mul_zero, List.drop_zero, List.take_append_of_le_length (by omega), List.take_of_length_le (by omega)]
  have e2 : blkAt (E1 ++ E2) 1 = E2 := by
    rw [blkAt, List.drop_append_of_le_length (by omega), List.drop_of_length_le (by omega), List.nil_append, List.take_of_length_le (by omega)]
  have f1 : blkN kw1 h0N = t1 := iter_of kw1 1 h0N t1 ht1
  have f2 : blkN kw2 t1 = t := iter_of kw2 1 t1 t ht
  rw [foldB_succ, foldB_succ, foldB_zero, e1, e2, hc1.block _ h0_ok, f1, hc2.block _ (by rw [← f1]; exact plus_ok _ _), f2]
/-- A row of one byte, of whole blocks. -/
theorem sha_row {x : UInt8} {n : Nat} {E : List UInt8} {kw1 kw2 : List Nat} {t1 t : StN} (hE : endL (List.replicate (64 * n) x) = E) (h2 : E.length = 64) (hc1 : Cert (List.replicate 64 x) kw1) (hc2 : Cert E kw2)
    (ht1 : iterN kw1 n h0N = t1) (ht : blks kw2 1 t1.a t1.b t1.c t1.d t1.e t1.f t1.g t1.h (is8 t) = true) : shaZ (List.replicate (64 * n) x) = t.z := by
  have hf : ∀ m, m ≤ n → foldB h0Z (List.replicate (64 * n) x) m = (iterN kw1 m h0N).z := by
    intro m
    induction m with
    | zero => exact fun _ => rfl
    | succ m ih =>
      intro hm
      have e : blkAt (List.replicate (64 * n) x) m = List.replicate 64 x := by
        rw [blkAt, List.drop_replicate, List.take_replicate]
        congr 1
        omega
      rw [foldB_succ, ih (by omega), e, hc1.block _ (iter_ok _ _ _ h0_ok), ← iter_succ]
  have f2 : blkN kw2 t1 = t := iter_of kw2 1 t1 t ht
  rw [shaZ, hE, h2, List.length_replicate, Nat.mul_div_cancel_left n (by omega), hf n (Nat.le_refl _), ht1]
  show foldB _ _ 1 = _
  rw [foldB_succ, foldB_zero, blkAt_all E h2, hc2.block _ (by rw [← ht1]; exact iter_ok _ _ _ h0_ok), f2]
end Go.Proofs.YtbchfpcdmkldeaaDoor
