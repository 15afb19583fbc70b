/- How chunks and their children lie in memory. No condition. -/
import Derived.Test.YtoonihhjdmkflaaChMath
import Derived.Test.YtoonihhjdmkflaaPkB
import Derived.Test.YtoonihhjdmkflaaTk
import Derived.Test.YtoonihhjdmkflaaQTk
import Derived.Deep.DeepMust
import Derived.Maps.AppendAt
import Derived.Deep.AppendLies
import Derived.Laws.StructEq
import Derived.Stop.BytesEq
namespace Go.Proofs.Ytoonihhjdmkflaa
open Go.RowKit

/-- A child's cells; children's. -/
def kcs (k : Kd) : List Value := [.string k.name, .bool k.dir] ++ (bcs k.hash ++ [.int .u8 k.ht, .int .u32 k.sz])
def kss (l : List Kd) : List Value := l.flatMap kcs
theorem kcs_len {k : Kd} (h : k.Ok) : (kcs k).length = 36 := by simp [kcs, bcs_length, h.1]
theorem kcs_name (k : Kd) : (kcs k)[0]? = some (.string k.name) := rfl
theorem kcs_dir (k : Kd) : (kcs k)[1]? = some (.bool k.dir) := rfl
theorem kcs_hash {k : Kd} (h : k.Ok) : (((kcs k).drop 2).take 32) = bcs k.hash := by
  have : (kcs k).drop 2 = bcs k.hash ++ [.int .u8 k.ht, .int .u32 k.sz] := rfl
  rw [this, List.take_append_of_le_length (by rw [bcs_length, h.1]; decide), List.take_of_length_le (by rw [bcs_length, h.1]; decide)]
theorem kcs_ht {k : Kd} (h : k.Ok) : (kcs k)[34]? = some (.int .u8 k.ht) := by
  have hb : (bcs k.hash).length = 32 := by rw [bcs_length, h.1]
  unfold kcs
  rw [List.getElem?_append_right (by simp), List.getElem?_append_right (by rw [hb]; simp), hb]
  rfl
theorem kcs_sz {k : Kd} (h : k.Ok) : (kcs k)[35]? = some (.int .u32 k.sz) := by
  have hb : (bcs k.hash).length = 32 := by rw [bcs_length, h.1]
  unfold kcs
  rw [List.getElem?_append_right (by simp), List.getElem?_append_right (by rw [hb]; simp), hb]
  rfl
theorem kcs_hat {k : Kd} {j : Nat} {u : UInt8} (hj : k.hash[j]? = some u) : (kcs k)[2 + j]? = some (.int .u8 u.toNat) := by
  have hl : j < k.hash.length := (List.getElem?_eq_some_iff.1 hj).1
  unfold kcs
  rw [List.getElem?_append_right (by simp)]
  simp only [List.length_cons, List.length_nil, Nat.reduceAdd, Nat.add_sub_cancel_left]
  rw [List.getElem?_append_left (by rw [bcs_length]; exact hl), bcs_get, hj]
  rfl
theorem kcs_one (k : Kd) : ∀ u ∈ kcs k, u.oneCell' = true := fun u hu => by
  unfold kcs at hu
  rcases List.mem_append.1 hu with hu | hu
  · simp only [List.mem_cons, List.not_mem_nil, or_false] at hu
    rcases hu with rfl | rfl <;> rfl
  · rcases List.mem_append.1 hu with hu | hu
    · exact bcs_one _ u hu
    · simp only [List.mem_cons, List.not_mem_nil, or_false] at hu
      rcases hu with rfl | rfl <;> rfl
theorem kss_len : ∀ {l : List Kd}, (∀ k ∈ l, k.Ok) → (kss l).length = 36 * l.length
  | [], _ => rfl
  | k :: r, h => by
    have h1 := kss_len (l := r) fun x hx => h x (List.mem_cons_of_mem _ hx)
    have h2 := kcs_len (h k List.mem_cons_self)
    simp only [kss, List.flatMap_cons, List.length_append, List.length_cons] at h1 ⊢
    omega
theorem kss_get : ∀ {l : List Kd}, (∀ k ∈ l, k.Ok) → ∀ {j : Nat} {k : Kd}, l[j]? = some k → ∀ i v, (kcs k)[i]? = some v → (kss l)[36 * j + i]? = some v
  | [], _, _, _, h, _, _, _ => by cases h
  | x :: r, ho, j, k, hj, i, v, hi => by
    have hx := kcs_len (ho x List.mem_cons_self)
    have hk : i < 36 := by
      have := (List.getElem?_eq_some_iff.1 hi).1
      rcases j with _ | j
      · cases hj; omega
      · have := kcs_len (ho k (List.mem_of_getElem? hj)); omega
    show (kcs x ++ kss r)[36 * j + i]? = _
    rcases j with _ | j
    · cases hj
      rw [List.getElem?_append_left (by omega)]
      simpa using hi
    · rw [List.getElem?_append_right (by omega), hx, show 36 * (j + 1) + i - 36 = 36 * j + i by omega]
      exact kss_get (fun k hk => ho k (List.mem_cons_of_mem _ hk)) (by simpa using hj) i v hi
theorem kss_snoc (l : List Kd) (k : Kd) : kss (l ++ [k]) = kss l ++ kcs k := by simp [kss]

/-- A slice at the address A reads as these children. -/
def KsR (w : World) (A : Option Addr) (l : List Kd) : Prop :=
  l = [] ∨ ∃ b o, A = some ⟨b, o, none⟩ ∧ ∀ j k, l[j]? = some k → w.rangeAt b (o + 36 * j) (kcs k)
theorem KsR.nil (w : World) (A : Option Addr) : KsR w A [] := .inl rfl
theorem range_kp {S : Nat → Prop} {w w' : World} {b o : Nat} {cs : List Value} (h : w.rangeAt b o cs) (hk : Kp S w w') (hn : ¬ S b) : w'.rangeAt b o cs := fun j v hv =>
  (hk.cell (p := ⟨b, o + j, none⟩) (World.block_lt_of_cell? w ⟨b, o + j, none⟩ (h j v hv)) hn).trans (h j v hv)
theorem KsR.kp {S : Nat → Prop} {w w' : World} {A : Option Addr} {l : List Kd} (h : KsR w A l) (hk : Kp S w w') (hn : ∀ a, A = some a → ¬ S a.block) : KsR w' A l := by
  rcases h with h | ⟨b, o, rfl, hc⟩
  · exact .inl h
  · exact .inr ⟨b, o, rfl, fun j k hj => range_kp (hc j k hj) hk (hn _ rfl)⟩
theorem KsR.still {w w' : World} {A : Option Addr} {l : List Kd} (h : KsR w A l) (hk : Kp (fun _ => False) w w') : KsR w' A l := h.kp hk fun _ _ e => e
/-- A block of another kind of cells is none of theirs. -/
theorem KsR.far {w w' : World} {A : Option Addr} {l : List Kd} {g : Nat} {t : TypeId} {cs : Array Value} (h : KsR w A l) (hk : Kp (fun k => k = g) w w') (hb : Box w g t cs) (hx : ∀ (s : ByteArray) (d : Bool) (i : Nat), cs[i]? = some (.string s) → cs[i + 1]? ≠ some (.bool d)) : KsR w' A l := by
  rcases h with h | ⟨b, o, rfl, hc⟩
  · exact .inl h
  · refine .inr ⟨b, o, rfl, fun j k hj => range_kp (hc j k hj) hk ?_⟩
    rintro rfl
    have h0 := hc j k hj 0 _ (kcs_name k)
    have h1 := hc j k hj 1 _ (kcs_dir k)
    rw [hb.cell] at h0 h1
    exact hx _ _ _ h0 h1
theorem KsR.at {w : World} {A : Option Addr} {l : List Kd} (h : KsR w A l) {j : Nat} {k : Kd} (hj : l[j]? = some k) : ∃ b o, A = some ⟨b, o, none⟩ ∧ w.rangeAt b (o + 36 * j) (kcs k) := by
  rcases h with rfl | ⟨b, o, rfl, hc⟩
  · cases hj
  · exact ⟨b, o, rfl, hc j k hj⟩
theorem KsR.of_own {w : World} {base : Nat} {e : TypeId} {A : Option Addr} {n c : Nat} {l : List Kd} (h : w.ownsRow base e 36 (.slice A n c) n (kss l)) (ho : ∀ k ∈ l, k.Ok) : KsR w A l := by
  rcases h.2 with ⟨h1, h2⟩ | ⟨g, cap, cur, hv, _⟩
  · left
    have := h.1
    rw [kss_len ho] at this
    exact List.eq_nil_of_length_eq_zero (by omega)
  · injection hv with hA
    subst hA
    refine .inr ⟨g, 0, rfl, fun j k hj i v hi => ?_⟩
    have := h.cells (g := g) rfl (36 * j + i) v (kss_get ho hj i v hi)
    rw [Addr.add_mid] at this
    rw [Nat.add_assoc]
    exact this
/-- What a child's cells say. -/
theorem kid_cells {w : World} {b p : Nat} {k : Kd} (h : w.rangeAt b p (kcs k)) (ho : k.Ok) : w.cell? ⟨b, p, none⟩ = some (.string k.name) ∧ w.cell? ⟨b, p + 1, none⟩ = some (.bool k.dir) ∧ w.cell? ⟨b, p + 34, none⟩ = some (.int .u8 k.ht) ∧ w.cell? ⟨b, p + 35, none⟩ = some (.int .u32 k.sz) ∧ w.rangeAt b (p + 2) (bcs k.hash) := by
  refine ⟨h 0 _ (kcs_name k), h 1 _ (kcs_dir k), h 34 _ (kcs_ht ho), h 35 _ (kcs_sz ho), fun j v hj => ?_⟩
  rw [bcs_get] at hj
  obtain ⟨u, hu, rfl⟩ := Option.map_eq_some_iff.1 hj
  have := h (2 + j) _ (kcs_hat hu)
  rw [← Nat.add_assoc] at this
  exact this
/-- A chunk's cells, and that it lies there. -/
def ccs (c : Ck) (A : Option Addr) (n : Nat) : Array Value := #[.int .u8 c.kind, .string c.data, .slice A c.kids.length n]
structure CkR (w : World) (c : Ck) (A : Option Addr) (n : Nat) : Prop where
  k : KsR w A c.kids
  ok : c.Ok
  le : c.kids.length ≤ n
  mx : n ≤ maxLen
theorem CkR.still {w w' : World} {c : Ck} {A : Option Addr} {n : Nat} (h : CkR w c A n) (hk : Kp (fun _ => False) w w') : CkR w' c A n := ⟨h.k.still hk, h.ok, h.le, h.mx⟩
theorem ccs_one (c : Ck) (A : Option Addr) (n : Nat) : ∀ u ∈ (ccs c A n).toList, u.oneCell' = true := fun u hu => by
  simp only [ccs, List.mem_cons, List.not_mem_nil, or_false] at hu
  rcases hu with rfl | rfl | rfl <;> rfl
theorem CkR.zero (w : World) : CkR w ck0 none 0 := ⟨.nil _ _, ck0_ok, by simp [ck0], by simp [maxLen]⟩
theorem ccs_no (c : Ck) (A : Option Addr) (n : Nat) (s : ByteArray) (d : Bool) (i : Nat) (h : (ccs c A n)[i]? = some (.string s)) : (ccs c A n)[i + 1]? ≠ some (.bool d) := by
  rcases i with _ | _ | _ | i <;> simp [ccs] at h ⊢

theorem info3 {P : Program} {t : TypeId} {z : Value} {a b : Nat} (h : (P.info? t).map (fun i => (i.zero, i.size, i.bytes)) = some (some z, a, b)) : ∃ i, P.info? t = some i ∧ i.zero = some z ∧ i.size = a ∧ i.bytes = b := by
  obtain ⟨i, h1, h2, h3, h4⟩ := info_parts h
  exact ⟨i, h1, h2, h3, h4⟩
theorem hash_size : ∀ w, (sizeOf 5).run Try.prog w = .ok 1 w := by
  intro w
  have : (Try.prog.info? 5).map (·.size) = some 1 := by kernel_rfl
  cases hq : Try.prog.info? 5 with
  | none => simp [hq] at this
  | some i =>
    simp [hq] at this
    simp [sizeOf, typeInfo, hq, this]
theorem neq_kid (s t : Kd) (hs : s.Ok) (ht : t.Ok) (w : World) : (binOp .neq 46 (.agg (kcs s).toArray) (.agg (kcs t).toArray)).run Try.prog w = .ok (.bool (!decide (s = t))) w := by
  have hS : Try.prog.underlying 46 = some (.struct (Try.prog.fieldsOf 46)) := by kernel_rfl
  have hp : Try.prog.stoodInHeld 46 = false := by kernel_rfl
  have u1 := Try.underlying9
  have u2 := Try.underlying4
  have u3 := Try.underlying43
  have u4 := Try.underlying5
  have u5 := Try.underlying44
  have a1 := Try.isAgg9
  have a2 := Try.isAgg4
  have a3 := Try.isAgg43
  have a4 := Try.isAgg5
  have a5 := Try.isAgg44
  have z1 := Try.sizeOf9
  have z2 := Try.sizeOf4
  have z3 := Try.sizeOf43
  have z4 := Try.sizeOf5
  have z5 := Try.sizeOf44
  have s0 := kcs_name s
  have s1 := kcs_dir s
  have s2 := kcs_hash hs
  have s3 := kcs_ht hs
  have s4 := kcs_sz hs
  have t0 := kcs_name t
  have t1 := kcs_dir t
  have t2 := kcs_hash ht
  have t3 := kcs_ht ht
  have t4 := kcs_sz ht
  rw [run_neq_struct, show (10000 : Nat) = 9999 + 1 from rfl, run_equalIn_agg w 9999 46 _ _ hS hp]
  simp only [Program.fieldsOf, Try.underlying46]
  go_simp
  have he : (Op.equalIn 9999 43 (.agg (bcs s.hash).toArray) (.agg (bcs t.hash).toArray)).run Try.prog w = .ok (s.hash == t.hash) w := run_equalIn_bytes w 9997 43 5 32 u3 u4 hash_size s.hash t.hash hs.1 ht.1
  rw [he]
  by_cases h : s = t
  · subst h
    simp [Result.andThen]
  · rw [decide_eq_false h]
    split
    · next h1 =>
      split
      · next h2 =>
        by_cases h3 : s.hash = t.hash
        · have h3' : (s.hash == t.hash) = true := by simpa using h3
          by_cases h4 : (s.ht : Int) = t.ht
          · by_cases h5 : (s.sz : Int) = t.sz
            · refine absurd (Kd.ext' ?_ h2 h3 (by omega) (by omega)) h
              have := eq_byt (s := s.name) (t := t.name)
              rw [h1, beq_self_eq_true] at this
              exact of_decide_eq_true this.symm
            · simp only [h3', Result.andThen, Bool.true_eq_false, if_false, if_pos h4, if_neg h5]
          · simp only [h3', Result.andThen, Bool.true_eq_false, if_false, if_neg h4]
        · have h3' : (s.hash == t.hash) = false := by simpa using h3
          simp only [h3', Result.andThen, if_true]
      · rfl
    · rfl
theorem ent_kid (k : Kd) (hk : k.Ok) (w : World) : (binOp .neq 46 (.agg (kcs k).toArray) (.agg (kcs ⟨⟨#[]⟩, false, k.hash, k.ht, k.sz⟩).toArray)).run Try.prog w = .ok (.bool (entB k)) w := by
  rw [neq_kid k ⟨⟨#[]⟩, false, k.hash, k.ht, k.sz⟩ hk ⟨hk.1, hk.2.1, hk.2.2⟩]
  congr 2
  unfold entB
  congr 1
  by_cases h : k = ⟨⟨#[]⟩, false, k.hash, k.ht, k.sz⟩
  · have h1 := congrArg Kd.name h
    have h2 := congrArg Kd.dir h
    dsimp only at h1 h2
    rw [decide_eq_true h, decide_eq_true h1, h2]
    rfl
  · rw [decide_eq_false h]
    by_cases h1 : k.name = ⟨#[]⟩
    · rcases h2 : k.dir with _ | _
      · exact absurd (Kd.ext' (b := ⟨⟨#[]⟩, false, k.hash, k.ht, k.sz⟩) h1 h2 rfl rfl rfl) h
      · simp
    · rw [decide_eq_false h1]
      rfl
/-- A row of one child, laid anew. -/
theorem kd_new (w : World) (k : Kd) (t : TypeId) : ∀ j u, (kcs k)[j]? = some u → (w.alloc (.cells (kcs k).toArray t)).cell? ((⟨w.heap.size, 0, none⟩ : Addr).add j) = some u := by
  intro j u hu
  rw [Addr.add_mid, Nat.zero_add, (Box.new w t _).cell]
  simpa using hu

set_option maxHeartbeats 400000 in
theorem leads_any (c : Ck) (A : Option Addr) (n : Nat) (w : World) :
    Calls Try.prog 25 #[.agg (ccs c A n)] w fun e w' => e = .returned (.bool (ldB c.kind)) ∧ Kp (fun _ => False) w w' := by
  obtain ⟨kind, data, kids⟩ := c
  dsimp only [ccs]
  by_cases h2 : kind = 2
  · subst h2
    rw [show ldB 2 = true from rfl]
    go_enter Try.func25, Try.ntmps25
    go_wp2
    go_ret
    exact ⟨rfl, (Kp.refl _ w).alloc _⟩
  · have e : ldB kind = decide (kind = 3) := by unfold ldB; simp [h2]
    have d2 : ((kind : Int) == 2) = false := by simp; omega
    have d3 : ((kind : Int) == 3) = decide (kind = 3) := by rw [Bool.eq_iff_iff]; simp; omega
    rw [e]
    generalize decide (kind = 3) = b at *
    clear e h2
    go_enter Try.func25, Try.ntmps25
    go_wp2
    go_ret
    exact ⟨rfl, (Kp.refl _ w).alloc _⟩
end Go.Proofs.Ytoonihhjdmkflaa
