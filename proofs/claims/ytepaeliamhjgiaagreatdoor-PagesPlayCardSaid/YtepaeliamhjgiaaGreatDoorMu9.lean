/- The law of pages, part 9 of 55: ShRev App Opnr Take Tell Pkr. -/
import Derived.Test.YtepaeliamhjgiaaGreatDoorMu1
import Derived.Test.YtepaeliamhjgiaaGreatDoorChecked
import Derived.IntWalk
import Derived.Laws.BitsAllLaws
import Derived.Maps.AppendAt
import Derived.OwnWalk
import Derived.Test.YtepaeliamhjgiaaGreatDoorRows
import Derived.Deep.MidRow
import Derived.Deep.WholeRow
import Derived.Lib.LazyBuf
set_option maxHeartbeats 16000000
set_option maxRecDepth 100000
namespace Go.Proofs.YtepaeliamhjgiaaGreatDoor
open Go.RowKit
def revG (n : Nat) : Nat := (n / 256 &&& 16711935) ||| ((n &&& 16711935) * 256 % 4294967296)
theorem rev_bits (n : Nat) (h : n < 4294967296) : revG n / 65536 ||| (revG n * 65536 % 4294967296) = rev32 n := by
 apply Nat.eq_of_testBit_eq
 intro i
 have hb (j : Nat) (hj : 32 <= j) : n.testBit j = false := Nat.testBit_lt_two_pow (Nat.lt_of_lt_of_le (show n < 2 ^ 32 by simpa using h) (Nat.pow_le_pow_right (by omega) hj))
 have hr : rev32 n = (n % 2 ^ 8 * 2 ^ 24) ^^^ ((n / 2 ^ 8 % 2 ^ 8 * 2 ^ 16) ^^^ ((n / 2 ^ 16 % 2 ^ 8 * 2 ^ 8) ^^^ (n / 2 ^ 24 % 2 ^ 8))) := by
  have l1 : n % 256 < 256 := Nat.mod_lt _ (by decide)
  have l2 : n / 256 % 256 < 256 := Nat.mod_lt _ (by decide)
  have l3 : n / 65536 % 256 < 256 := Nat.mod_lt _ (by decide)
  have l4 : n / 16777216 % 256 < 256 := Nat.mod_lt _ (by decide)
  simp only [Nat.reducePow]
  unfold rev32
  generalize n % 256 = a at *
  generalize n / 256 % 256 = b at *
  generalize n / 65536 % 256 = c at *
  generalize n / 16777216 % 256 = d at *
  have y2 : c * 256 + d < 65536 := by omega
  have y1 : b * 65536 + (c * 256 + d) < 2 ^ 24 := Nat.lt_of_lt_of_le (show _ < (b + 1) * 65536 by rw [Nat.succ_mul]; exact Nat.add_lt_add_left y2 _) (Nat.le_trans (Nat.mul_le_mul_right 65536 (Nat.succ_le_of_lt l2)) (by decide))
  have x1 := xor_low a (b * 65536 + (c * 256 + d)) 24 y1
  have x2 := xor_low b (c * 256 + d) 16 y2
  have x3 := xor_low c d 8 (by simpa using l4)
  simp only [Nat.reducePow] at x1 x2 x3
  rw [<- x3, <- x2, <- x1]
  simp only [Nat.add_mul, Nat.mul_assoc, Nat.reduceMul, Nat.add_assoc]
 have m8 : (16711935 : Nat) = (255 * 2 ^ 16) ^^^ 255 := by decide
 have hm (j : Nat) : (16711935 : Nat).testBit j = ((decide (16 <= j) && decide (j - 16 < 8)) ^^ decide (j < 8)) := by
  rw [m8, Nat.testBit_xor, Nat.testBit_mul_two_pow, show (255 : Nat) = 2 ^ 8 - 1 by decide, Nat.testBit_two_pow_sub_one, Nat.testBit_two_pow_sub_one]
 rw [hr]
 unfold revG
 rw [show (256 : Nat) = 2 ^ 8 by decide, show (65536 : Nat) = 2 ^ 16 by decide, show (4294967296 : Nat) = 2 ^ 32 by decide]
 simp only [Nat.testBit_or, Nat.testBit_xor, Nat.testBit_and, Nat.testBit_mul_two_pow, Nat.testBit_mod_two_pow, Nat.testBit_div_two_pow, hm]
 rcases Nat.lt_or_ge i 32 with hi | hi
 ·have hc : i = 0 \/ i = 1 \/ i = 2 \/ i = 3 \/ i = 4 \/ i = 5 \/ i = 6 \/ i = 7 \/ i = 8 \/ i = 9 \/ i = 10 \/ i = 11 \/ i = 12 \/ i = 13 \/ i = 14 \/ i = 15 \/ i = 16 \/ i = 17 \/ i = 18 \/ i = 19 \/ i = 20 \/ i = 21 \/ i = 22 \/ i = 23 \/ i = 24 \/ i = 25 \/ i = 26 \/ i = 27 \/ i = 28 \/ i = 29 \/ i = 30 \/ i = 31 := by omega
  clear hm m8 hr hi
  rcases hc with rfl | rfl | rfl | rfl | rfl | rfl | rfl | rfl | rfl | rfl | rfl | rfl | rfl | rfl | rfl | rfl | rfl | rfl | rfl | rfl | rfl | rfl | rfl | rfl | rfl | rfl | rfl | rfl | rfl | rfl | rfl | rfl <;> simp [hb]
 ·have e1 : decide (i < 32) = false := by simp; omega
  have e2 : decide (i - 24 < 8) = false := by simp; omega
  have e3 : decide (i - 16 < 8) = false := by simp; omega
  have e4 : decide (i - 8 < 8) = false := by simp; omega
  have e5 : decide (i < 8) = false := by simp; omega
  simp [e1, e2, e3, e4, e5]
  all_goals omega
theorem revG_lt (n : Nat) (_h : n < 4294967296) : revG n < 4294967296 := by
 have e : (4294967296 : Nat) = 2 ^ 32 := by decide
 unfold revG
 rw [e] at *
 exact Nat.or_lt_two_pow (Nat.and_lt_two_pow _ (by decide)) (Nat.mod_lt _ (by decide))
theorem rev_any (n : Nat) (w : World) (hn : n < 4294967296) :
  Calls Tryz.prog 171 #[.int .u32 (n : Int)] w fun e w' => e = .returned (.int .u32 ((rev32 n : Nat) : Int)) /\ w = w' := by
 have hd : n / 256 < 4294967296 := Nat.lt_of_le_of_lt (Nat.div_le_self _ _) hn
 have a1 := u32_and_nat (n / 256) 16711935 hd (by decide)
 have a2 := u32_and_nat n 16711935 hn (by decide)
 have hg := revG_lt n hn
 have g1 := u32_or_nat (n / 256 &&& 16711935) ((n &&& 16711935) * 256 % 4294967296) (Nat.and_lt_two_pow (n := 32) _ (by decide)) (Nat.mod_lt _ (by decide))
 have g2 := u32_or_nat (revG n / 65536) (revG n * 65536 % 4294967296) (Nat.lt_of_le_of_lt (Nat.div_le_self _ _) hg) (Nat.mod_lt _ (by decide))
 rw [rev_bits n hn] at g2
 change _ = ((revG n : Nat) : Int) at g1
 generalize revG n = r at *
 generalize n / 256 &&& 16711935 = x at *
 generalize n &&& 16711935 = y at *
 have A1 := hHd a1
 have A2 := hHd a2
 have G1 := hHd g1
 have G2 := hHd g2
 clear a1 a2 g1 g2 hg hd
 go_enter Tryz.func171, Tryz.ntmps171
 go_wp2_with fail
 go_ret
 have B1 := A1.out
 have B2 := A2.out
 have B3 := G1.out
 have B4 := G2.out
 simp only [Int.natCast_ediv, Int.natCast_emod, Int.natCast_mul, Int.cast_ofNat_Int] at B1 B2 B3 B4
 refine ⟨?_, rfl⟩
 first
  |(rw [B1, B2, B3, B4]; rfl)
  |(simp only [B1, B2, B3, B4])
section
variable {P : Program} (w : World)
theorem run_put_nil (base : Nat) (t ty e : TypeId) (i : TypeInfo) (ht : P.underlying t = some (.slice e)) (hi : P.info? e = some i)
  (v : Value) (n : Nat) (xs : List Value) (hown : w.ownsRow base e 1 v n xs) (c : Nat) : (Builtin.append_ #[t, t] ty #[v, .slice none 0 c]).run P w = .ok v w := by
 rcases hown.2 with ⟨rfl, rfl⟩ | ⟨g, cap, cur, rfl, _, _, hnc, _⟩
 ·simp [Builtin.append_, run_underlying ht, sizeOf, typeInfo, hi, Builtin.lenOf, Builtin.firstCells]
 ·simp [Builtin.append_, run_underlying ht, sizeOf, typeInfo, hi, Builtin.lenOf, Builtin.firstCells, hnc, storeCells]
theorem run_put (t ty e : TypeId) (i : TypeInfo) (ht : P.underlying t = some (.slice e)) (hi : P.info? e = some i) (hz : i.zero = some (.int .u8 0)) (hsize : i.size = 1) (hby : i.bytes = 1)
  (v : Value) (l s : List UInt8) (hown : w.ownsRow 0 e 1 v l.length (bcs l)) (A : Option Addr) (c : Nat) (hr : Rd w A s) (hlen : l.length + s.length <= 140737488355328) :
  ∃ v' w', (Builtin.append_ #[t, t] ty #[v, .slice A s.length c]).run P w = .ok v' w' /\ w'.ownsRow 0 e 1 v' (l ++ s).length (bcs (l ++ s)) /\ w.grownBy w' v.ownBlock /\ (v'.ownBlock = v.ownBlock \/ v'.ownBlock = some w.heap.size) := by
 rcases hr with rfl | ⟨b, o, rfl, hc⟩
 ·rcases A with _ | a
  ·exact ⟨v, w, run_put_nil w 0 t ty e i ht hi v _ _ hown c, by simpa using hown, ⟨rfl, rfl, rfl, Nat.le_refl _, fun _ _ _ => rfl⟩, .inl rfl⟩
  ·obtain ⟨v', w', h1, h2, h3, _, h5⟩ := run_append_own_at (P := P) w 0 t ty e i _ 1 1 ht hi hz hsize hby rfl (by omega) v _ _ hown a 0 c [] rfl (by intro j u hu; simp at hu) (by simp) (by simp only [maxLen]; simp at hlen; omega) (by simp at hlen; omega) (Nat.zero_le _)
   exact ⟨v', w', h1, by simpa using h2, h3, h5⟩
 ·obtain ⟨v', w', h1, h2, h3, _, h5⟩ := run_append_own_at (P := P) w 0 t ty e i _ 1 1 ht hi hz hsize hby rfl (by omega) v _ _ hown ⟨b, o, none⟩ s.length c (bcs s) (by rw [bcs_length, Nat.mul_one])
   (by
    intro j u hu
    rw [bcs_get] at hu
    obtain ⟨x, hx, rfl⟩ := Option.map_eq_some_iff.1 hu
    have := hc j x hx
    have e : (⟨b, o, none⟩ : Addr).add j = ⟨b, o + j, none⟩ := by unfold Addr.add; split <;> simp_all
    rw [e]
    exact this)
   (bcs_one s) (by simp only [maxLen]; omega) (by omega) (Nat.zero_le _)
  exact ⟨v', w', h1, by simpa [bcs_append] using h2, h3, h5⟩
theorem wpList_put {ops : Array Oper} {rest : List Oper} {o : Oper} {a : Act} {Q : Exit -> Act -> World -> Prop} (hgd : o.guard = none) (x y : Operand) (t : TypeId)
  (ho : o.op = .call { callee := .builtin .append, args := #[x, y], argTypes := #[t, t] })
  (e : TypeId) (i : TypeInfo) (ht : P.underlying t = some (.slice e)) (hi : P.info? e = some i) (hz : i.zero = some (.int .u8 0)) (hsize : i.size = 1) (hby : i.bytes = 1)
  (v : Value) (hx : a.eval x = v) (l s : List UInt8) (hown : w.ownsRow 0 e 1 v l.length (bcs l)) (A : Option Addr) (m c : Nat) (hy : a.eval y = .slice A m c) (hm : s.length = m) (hr : Rd w A s) (hlen : l.length + s.length <= 140737488355328)
  (h : ∀ v' w', w'.ownsRow 0 e 1 v' (l ++ s).length (bcs (l ++ s)) -> w.grownBy w' v.ownBlock -> (v'.ownBlock = v.ownBlock \/ v'.ownBlock = some w.heap.size) -> wpList P ops Q rest (a.put o.dst v') w') : wpList P ops Q (o :: rest) a w :=
 wpList_plain hgd fun _ hK => by
  subst hm
  obtain ⟨v', w', hrun, h2, h3, h4⟩ := run_put (P := P) w t o.type e i ht hi hz hsize hby v l s hown A c hr hlen
  unfold Oper.wp execOp
  simp only [ho, resolve, invoke, builtin, Sem.run_bind, Sem.run_pure, Result.andThen_ok, List.map_toArray, List.map_cons, List.map_nil, hx, hy, hrun]
  exact hK _ _ (h v' w' h2 h3 h4)
end
def FnOf (G : Nat -> Prop) (w : World) : Option Int -> Value -> Prop
 |none, fv => fv = .nilFunc
 |some e, fv => ∃ g, fv = .func (Fn.func 186) #[] #[.pointer (some ⟨g, 0, none⟩)] /\ G g /\ Box w g 32 #[.int .i64 e]
def Opn (G : Nat -> Prop) (w : World) (b : Nat) (l : List UInt8) (f : Option Int) : Prop :=
 G b /\ ∃ A c fv, Box w b 187 #[.slice A l.length c, fv] /\ l.length <= c /\ c <= maxLen /\ Rd w A l /\ (l ≠ [] -> ∀ a, A = some a -> G a.block) /\ FnOf G w f fv
section
variable {G S : Nat -> Prop} {w w' : World} {b : Nat} {l : List UInt8} {f : Option Int}
theorem Opn.kp (h : Opn G w b l f) (hk : Kp S w w') (hs : ∀ k, G k -> ¬ S k) : Opn G w' b l f := by
 obtain ⟨hb, A, c, fv, hx, h1, h2, h3, h4, h5⟩ := h
 refine ⟨hb, A, c, fv, hx.kp hk (hs b hb), h1, h2, ?_, h4, ?_⟩
 ·by_cases hl : l = []
  ·exact .inl hl
  ·exact h3.kp hk (fun a ha => hs _ (h4 hl a ha))
 cases f with
 |none => exact h5
 |some e =>
  obtain ⟨g, e1, e2, e3⟩ := h5
  exact ⟨g, e1, e2, e3.kp hk (hs g e2)⟩
theorem Opn.old (h : Opn G w b l f) : Opn (fun k => G k /\ k < w.heap.size) w b l f := by
 obtain ⟨hb, A, c, fv, hx, h1, h2, h3, h4, h5⟩ := h
 refine ⟨⟨hb, hx.lt⟩, A, c, fv, hx, h1, h2, h3, fun hl a ha => ⟨h4 hl a ha, ?_⟩, ?_⟩
 ·obtain ⟨a', e, hlt⟩ := h3.lt hl
  rw [ha] at e
  cases e
  exact hlt
 ·cases f with
  |none => exact h5
  |some e =>
   obtain ⟨g, e1, e2, e3⟩ := h5
   exact ⟨g, e1, ⟨e2, e3.lt⟩, e3⟩
theorem Opn.mono {G' : Nat -> Prop} (h : Opn G w b l f) (hs : ∀ k, G k -> G' k) : Opn G' w b l f := by
 obtain ⟨hb, A, c, fv, hx, h1, h2, h3, h4, h5⟩ := h
 refine ⟨hs _ hb, A, c, fv, hx, h1, h2, h3, fun hl a ha => hs _ (h4 hl a ha), ?_⟩
 cases f with
 |none => exact h5
 |some e =>
  obtain ⟨g, e1, e2, e3⟩ := h5
  exact ⟨g, e1, hs _ e2, e3⟩
end
theorem func_cmp (w : World) : (binOp .neq 185 .nilFunc .nilFunc).run Tryz.prog w = .ok (.bool false) w := by kernel_rfl
theorem func_cmp' (fn : Fn) (a b : Array Value) (w : World) : (binOp .neq 185 (.func fn a b) .nilFunc).run Tryz.prog w = .ok (.bool true) w := by kernel_rfl
theorem reader_fine (b : Nat) (w : World) (sl : Value) (hb : Box w b 187 #[sl, .nilFunc]) :
  Calls Tryz.prog 160 #[.pointer (some ⟨b, 0, none⟩)] w fun e w' => e = .returned (.func (Fn.func 175) #[.pointer (some ⟨b, 0, none⟩)] #[]) /\ w = w' := by
 have c1 := hb.cell 1
 simp at c1
 clear hb
 have hcmp := func_cmp
 go_enter Tryz.func160, Tryz.ntmps160
 go_wp2
 go_ret
 exact ⟨rfl, rfl⟩
theorem reader_fails (b g : Nat) (w : World) (sl : Value) (hb : Box w b 187 #[sl, .func (Fn.func 186) #[] #[.pointer (some ⟨g, 0, none⟩)]]) :
  Calls Tryz.prog 160 #[.pointer (some ⟨b, 0, none⟩)] w fun e w' => e = .returned (.func (Fn.func 186) #[] #[.pointer (some ⟨g, 0, none⟩)]) /\ w = w' := by
 have c1 := hb.cell 1
 simp at c1
 clear hb
 have hcmp := fun w => func_cmp' (Fn.func 186) #[] #[.pointer (some ⟨g, 0, none⟩)] w
 go_enter Tryz.func160, Tryz.ntmps160
 go_wp2
 go_ret
 exact ⟨rfl, rfl⟩
theorem failing1 (g : Nat) (n e1 : Int) (w : World) (hb : Box w g 32 #[.int .i64 e1]) :
  Calls Tryz.prog 186 #[.int .i64 n, .pointer (some ⟨g, 0, none⟩)] w fun e w' => e = .returned (.tuple #[.slice none 0 0, .int .i64 e1]) /\ ∃ q, w' = w.drewN q := by
 have c1 := hb.cell 0
 simp at c1
 clear hb
 go_enter Tryz.func186, Tryz.ntmps186
 go_wp2
 go_quiet (fail)
 go_wp2
 go_ret2
 exact ⟨rfl, _, rfl⟩
theorem next_fine_ (b : Nat) (A : Option Addr) (c : Nat) (l : List UInt8) (n : Nat) (w : World) (hb : Box w b 187 #[.slice A l.length c, .nilFunc]) (_hc : l.length <= c) (_hm : c <= maxLen) (hn : n <= l.length) :
  Calls Tryz.prog 175 #[.pointer (some ⟨b, 0, none⟩), .int .i64 n] w fun e w' => e = .returned (.tuple #[.slice A n c, .int .i64 0]) /\
   (w.setCell ⟨b, 0, none⟩ (.slice (if c = n then A else A.map (·.add n)) (l.length - n) (c - n))) = w' := by
 have c0 := hb.cell 0
 have f0 := hb.free 0
 simp at c0
 have hnd : decide ((n : Int) < 0) = false := by simp
 have hnd2 : decide (l.length < n) = false := by simpa using hn
 clear hb
 go_enter Tryz.func175, Tryz.ntmps175
 go_wp2
 all_goals go_ret2
 all_goals exact ⟨rfl, rfl⟩
theorem next_fails_ (b : Nat) (A : Option Addr) (c : Nat) (l : List UInt8) (n : Int) (w : World) (hb : Box w b 187 #[.slice A l.length c, .nilFunc]) (hn : n < 0 \/ (l.length : Int) < n) :
  Calls Tryz.prog 175 #[.pointer (some ⟨b, 0, none⟩), .int .i64 n] w fun e w' => e = .returned (.tuple #[.slice none 0 0, .int .i64 3]) /\
   ∃ q, w' = ((w.setCell ⟨b, 1, none⟩ (.func (Fn.func 186) #[] #[.pointer (some ⟨w.heap.size, 0, none⟩)])).alloc (.cells #[.int .i64 3] 32)).drewN q := by
 have c0 := hb.cell 0
 have o1 := hb.cell 1
 have f1 := hb.free 1
 have hl := hb.lt
 have hg := Box.new (w.setCell ⟨b, 1, none⟩ (.func (Fn.func 186) #[] #[.pointer (some ⟨w.heap.size, 0, none⟩)])) 32 #[.int .i64 3]
 have c1 := ((hb.put 1 (.func (Fn.func 186) #[] #[.pointer (some ⟨w.heap.size, 0, none⟩)])).alloc (.cells #[.int .i64 3] 32)).cell 1
 simp at c0 c1 o1 hg
 clear hb
 rcases hn with hn | hn
 ·have hnd : decide (n < 0) = true := by simpa using hn
  clear hn
  go_enter Tryz.func175, Tryz.ntmps175
  go_wp2_with (first | (go_at_call 186; refine (failing1 _ _ 3 _ hg).mono ?_; rintro e w' ⟨rfl, q, rfl⟩) | go_in)
  go_ret2
  exact ⟨rfl, _, rfl⟩
 ·have hnd : decide (n < 0) = false := by simp; omega
  have hnd2 : decide ((l.length : Int) < n) = true := by simpa using hn
  clear hn
  go_enter Tryz.func175, Tryz.ntmps175
  go_wp2_with (first | (go_at_call 186; refine (failing1 _ _ 3 _ hg).mono ?_; rintro e w' ⟨rfl, q, rfl⟩) | go_in)
  go_ret2
  exact ⟨rfl, _, rfl⟩
theorem next_fine {G : Nat -> Prop} {w : World} {b : Nat} {l : List UInt8} (h : Opn G w b l none) (n : Nat) (hn : n <= l.length) :
  Calls Tryz.prog 175 #[.pointer (some ⟨b, 0, none⟩), .int .i64 n] w fun e w' => ∃ A c, e = .returned (.tuple #[.slice A n c, .int .i64 0]) /\ n <= c /\ c <= maxLen /\ Rd w' A (l.take n) /\ (l ≠ [] -> ∀ a, A = some a -> G a.block) /\
   Opn G w' b (l.drop n) none /\ Kp (fun k => k = b) w w' := by
 obtain ⟨hb, A, c, fv, hx, h1, h2, h3, h4, h5⟩ := h
 cases h5
 refine (next_fine_ b A c l n w hx h1 h2 hn).mono ?_
 rintro e w' ⟨rfl, rfl⟩
 have hk : Kp (fun k => k = b) w (w.setCell ⟨b, 0, none⟩ (.slice (if c = n then A else A.map (·.add n)) (l.length - n) (c - n))) := Kp.one _ _ _ _
 have hr : Rd (w.setCell ⟨b, 0, none⟩ (.slice (if c = n then A else A.map (·.add n)) (l.length - n) (c - n))) A l := h3.kp_box hk hx (by
  intro i u hu
  rcases i with _ | _ | i <;> simp at hu)
 refine ⟨A, c, rfl, by omega, h2, hr.take n, h4, ⟨hb, if c = n then A else A.map (·.add n), c - n, .nilFunc, ?_, ?_, ?_, hr.drop (n := n) h1, ?_, rfl⟩, hk⟩
 ·have := hx.put 0 (.slice (if c = n then A else A.map (·.add n)) (l.length - n) (c - n))
  simpa using this
 ·simp; omega
 ·simp only [maxLen] at h2 ⊢; omega
 ·intro hl a ha
  have hl' : l ≠ [] := by rintro rfl; simp at hl
  split at ha
  ·exact h4 hl' a ha
  ·obtain ⟨a', ha', rfl⟩ := Option.map_eq_some_iff.1 ha
   have := h4 hl' a' ha'
   unfold Addr.add
   split <;> exact this
theorem next_fails {G : Nat -> Prop} {w : World} {b : Nat} {l : List UInt8} (h : Opn G w b l none) (hG : G w.heap.size) (n : Int) (hn : n < 0 \/ (l.length : Int) < n) :
  Calls Tryz.prog 175 #[.pointer (some ⟨b, 0, none⟩), .int .i64 n] w fun e w' => e = .returned (.tuple #[.slice none 0 0, .int .i64 3]) /\
   Opn G w' b l (some 3) /\ Kp (fun k => k = b) w w' := by
 obtain ⟨hb, A, c, fv, hx, h1, h2, h3, h4, h5⟩ := h
 cases h5
 refine (next_fails_ b A c l n w hx hn).mono ?_
 rintro e w' ⟨rfl, q, rfl⟩
 have hk : Kp (fun k => k = b) w (w.setCell ⟨b, 1, none⟩ (.func (Fn.func 186) #[] #[.pointer (some ⟨w.heap.size, 0, none⟩)])) := Kp.one _ _ _ _
 have hr := h3.kp_box hk hx (by
  intro i u hu
  rcases i with _ | _ | i <;> simp at hu)
 have hx1 := hx.put 1 (.func (Fn.func 186) #[] #[.pointer (some ⟨w.heap.size, 0, none⟩)])
 have hg := Box.new (w.setCell ⟨b, 1, none⟩ (.func (Fn.func 186) #[] #[.pointer (some ⟨w.heap.size, 0, none⟩)])) 32 #[.int .i64 3]
 simp at hg hx1
 exact ⟨rfl, ⟨hb, A, c, _, (hx1.alloc _).drewN q, h1, h2, (hr.alloc _).drewN q, h4, _, rfl, hG, hg.drewN q⟩, (hk.alloc _).drewN q⟩
theorem number_any (b o : Nat) (c : Nat) (l : List UInt8) (w : World) (hl : l.length ≤ 8)
   (hc : ∀ j u, l[j]? = some u → w.cell? ⟨b, o + j, none⟩ = some (.int .u8 u.toNat)) :
    Calls Tryz.prog 142 #[.slice (some ⟨b, o, none⟩) l.length c] w fun e w' => e = .returned (.int .u64 (numN l)) ∧ w = w' := by
  have hc' := Lib.hid hc
  clear hc
  go_enter Tryz.func142, Tryz.ntmps142
  go_wp2
  go_loop [3, 8] (fun n i => ∃ k : Nat, k ≤ l.length ∧ i = .int .i64 k ∧ n = .int .u64 (numN (l.take k))) (fun _ i => l.length - (intOf i).toNat)
  case atStart => exact ⟨0, Nat.zero_le _, rfl, rfl⟩
  case round =>
    obtain ⟨k, hk, rfl, rfl⟩ := hrel
    by_cases hlt : k < l.length
    · have hx := hc'.out k l[k] (List.getElem?_eq_getElem hlt)
      go_wp2
      go_round
      case rel =>
        have h1 := numN_lt8 (l.take (k + 1)) (by simp; omega)
        have h2 := numN_take l k hlt
        have h3 := l[k].toNat_lt
        have h4 : numN (l.take k) * 256 + 256 ≤ 18446744073709551616 := by
          have h5 := numN_lt (l.take k)
          have h6 : (l.take k).length ≤ 7 := by simp; omega
          have h7 : 256 ^ (l.take k).length ≤ 256 ^ 7 := Nat.pow_le_pow_right (by omega) h6
          have h8 : 256 ^ 7 * 256 = 18446744073709551616 := by decide
          omega
        exact ⟨k + 1, by omega, by go_num, by rw [or_step _ _ h4 h3, h2]⟩
      case measure => simp [intOf]; omega
    · go_wp2
      go_ret
      exact ⟨by
        rw [List.take_of_length_le (by omega)]
        rfl, rfl⟩
theorem number_nil (A : Option Addr) (c : Nat) (w : World) :
    Calls Tryz.prog 142 #[.slice A 0 c] w fun e w' => e = .returned (.int .u64 0) ∧ w = w' := by
  go_enter Tryz.func142, Tryz.ntmps142
  go_wp2
  refine wp_loop_rounds 1 ?_
  rw [rounds_succ]
  go_wp2
  go_ret
  exact ⟨rfl, rfl⟩
theorem number_rd (A : Option Addr) (c : Nat) (l : List UInt8) (w : World) (hl : l.length ≤ 8) (h : Rd w A l) :
    Calls Tryz.prog 142 #[.slice A l.length c] w fun e w' => e = .returned (.int .u64 (numN l)) ∧ w = w' := by
  rcases h with rfl | ⟨b, o, rfl, hc⟩
  · exact number_nil A c w
  · exact number_any b o c l w hl hc
theorem Rd.range {w : World} {b o : Nat} {l : List UInt8} (hc : ∀ j u, l[j]? = some u -> w.cell? ⟨b, o + j, none⟩ = some (.int .u8 u.toNat)) : w.rangeAt b o (bcs l) := by
 intro j v hj
 rw [bcs_get] at hj
 obtain ⟨u, hu, rfl⟩ := Option.map_eq_some_iff.1 hj
 exact hc j u hu
theorem text1_rd (A : Option Addr) (c : Nat) (l : List UInt8) (w : World) (h : Rd w A l) :
  Calls Tryz.prog 144 #[.slice A l.length c] w fun e w' => e = .returned (.string ⟨l.toArray⟩) /\ w = w' := by
 have hcv := h.text 50 9 5 c Tryz.underlying50 Tryz.underlying5 Tryz.underlying9
 go_enter Tryz.func144, Tryz.ntmps144
 go_wp2
 go_ret
 exact ⟨rfl, rfl⟩
theorem name1_rd (A : Option Addr) (c : Nat) (x : UInt8) (l : List UInt8) (w : World) (hl : l.length + 1 <= c) (hm : c <= maxLen) (h : Rd w A (x :: l)) :
  Calls Tryz.prog 172 #[.slice A (l.length + 1) c] w fun e w' => e = .returned (.string ⟨l.toArray⟩) /\ w = w' := by
 have hd := h.drop (n := 1) (cap := c) (by simpa using hl)
 have hcv := hd.text 50 9 5 (c - 1) Tryz.underlying50 Tryz.underlying5 Tryz.underlying9
 simp only [List.drop_one, List.tail_cons] at hcv
 unfold maxLen at hm
 have Hd : Hid (∃ b o, A = some ⟨b, o, none⟩) := by
  rcases h with h | ⟨b, o, e, _⟩
  ·cases h
  ·exact ⟨b, o, e⟩
 clear hd h
 by_cases hc1 : c = 1
 ·rw [if_pos hc1] at hcv
  subst hc1
  obtain rfl : l = [] := List.eq_nil_of_length_eq_zero (by omega)
  simp only [List.length_nil, Nat.sub_self] at hcv
  go_enter Tryz.func172, Tryz.ntmps172
  go_wp2
  go_ret
  exact ⟨rfl, rfl⟩
 ·rw [if_neg hc1] at hcv
  obtain ⟨b, o, rfl⟩ := Hd.out
  have e1 : Option.map (fun (x : Addr) => x.add 1) (some ⟨b, o, none⟩) = some ⟨b, o + 1, none⟩ := by simp [Addr.add]
  rw [e1] at hcv
  go_enter Tryz.func172, Tryz.ntmps172
  go_wp2
  go_ret
  exact ⟨rfl, rfl⟩
theorem info_byte : (Tryz.prog.info? 5).map (fun i => (i.zero, i.size, i.bytes)) = some (some (.int .u8 0), 1, 1) := by kernel_rfl
def Sl (w : World) (B : Nat) (v : Value) (l : List UInt8) : Prop :=
 ∃ A c, v = .slice A l.length c /\ l.length <= c /\ c <= maxLen /\ Rd w A l /\ (∀ a, A = some a -> B <= a.block)
theorem sl_of_own {w : World} {B e : Nat} {v : Value} {l : List UInt8} (h : w.ownsRow 0 e 1 v ([] ++ l).length (bcs ([] ++ l))) (hB : ∀ k, v.ownBlock = some k -> B <= k) : Sl w B v l := by
 simp only [List.nil_append] at h
 have h' := h
 rcases h.2 with ⟨rfl, h0⟩ | ⟨g, cap, cur, rfl, _, _, hcap, hm, _⟩
 ·have hl : l = [] := List.eq_nil_of_length_eq_zero h0
  subst hl
  exact ⟨none, 0, rfl, Nat.le_refl _, by simp [maxLen], Rd.nil _ _, fun _ h => by cases h⟩
 ·exact ⟨_, cap, rfl, hcap, hm, Rd.of_own h', fun a ha => by cases ha; exact hB g rfl⟩
theorem own_shape {w : World} {e n : Nat} {v : Value} {xs : List Value} (h : w.ownsRow 0 e 1 v n xs) : ∃ A c, v = .slice A n c := by
 rcases h.2 with ⟨rfl, rfl⟩ | ⟨g, cap, _, rfl, _⟩
 ·exact ⟨_, _, rfl⟩
 ·exact ⟨_, _, rfl⟩
theorem clone_any (A : Option Addr) (c : Nat) (l : List UInt8) (w : World) (h : Rd w A l) (hlen : l.length <= 140737488355328) :
  Calls Tryz.prog 139 #[.slice A l.length c] w fun e w' => ∃ v, e = .returned v /\ Sl w' w.heap.size v l /\ Kp (fun _ => False) w w' := by
 obtain ⟨i0, hi, hz0, hz1, hz2⟩ := info_parts info_byte
 have hnil := Lib.run_eql_slice_nil (P := Tryz.prog) w 50 5 A l.length c 0 0 Tryz.underlying50
 rcases A with _ | a
 ·have hl : l = [] := by
   rcases h with h | ⟨b, o, e, _⟩
   ·exact h
   ·cases e
  subst hl
  simp only [List.length_nil, Option.isNone_none] at hnil
  show Calls Tryz.prog 139 #[.slice none 0 c] w _
  go_enter Tryz.func139, Tryz.ntmps139
  go_wp2_with fail
  go_ret
  exact ⟨_, rfl, ⟨none, 0, rfl, Nat.le_refl _, by simp [maxLen], Rd.nil _ _, fun _ h => by cases h⟩, Kp.refl _ _⟩
 ·simp only [Option.isNone_some] at hnil
  have H := hHd h
  clear h
  go_enter Tryz.func139, Tryz.ntmps139
  go_wp2_with (at_builtin; refine wpList_put _ rfl (.tmp 5) (.tmp 6) 50 rfl 5 i0 Tryz.underlying50 hi hz0 hz1 hz2 _ rfl [] l (World.ownsRow_made w #[] 0 (Nat.zero_le _) (by simp [maxLen]) rfl) (some a) l.length c rfl rfl (H.out.alloc _) (by simpa using hlen) ?_)
  intro v' w1 hown hg hat
  have Hown := hHd hown
  have Hg := hHd hg
  have Hat := hHd hat
  clear hown hg hat
  go_wp2_with fail
  go_ret
  have hk : Kp (fun k => w.heap.size <= k) w w1 := ((Kp.refl _ w).alloc (.cells #[] 5)).grown Hg.out (by
   intro k hk
   simp [Value.ownBlock] at hk
   exact .inl (by omega))
  refine ⟨v', rfl, sl_of_own Hown.out ?_, hk.fresh _⟩
  intro k hk
  rcases Hat.out with e | e <;> rw [e] at hk <;> simp [Value.ownBlock] at hk <;> omega
def Pkr (F : Nat -> Prop) (w : World) (b : Nat) (l : List UInt8) (err : Int) : Prop :=
 F b /\ ∃ v, Box w b 200 #[v, .int .i64 err] /\ w.ownsRow 0 5 1 v l.length (bcs l) /\ ∀ k, v.ownBlock = some k -> F k
theorem own_kp {S : Nat -> Prop} {w w' : World} {e : TypeId} {v : Value} {n : Nat} {xs : List Value} (h : w.ownsRow 0 e 1 v n xs) (hk : Kp S w w') (hn : ∀ k, v.ownBlock = some k -> ¬ S k) : w'.ownsRow 0 e 1 v n xs := by
 refine ⟨h.1, ?_⟩
 rcases h.2 with h2 | ⟨g, cap, cur, rfl, hb, hg, r⟩
 ·exact .inl h2
 ·exact .inr ⟨g, cap, cur, rfl, hb, (hk.block g (lt_of_block hg) (hn g rfl)).trans hg, r⟩
theorem Pkr.kp {F S : Nat -> Prop} {w w' : World} {b : Nat} {l : List UInt8} {err : Int} (h : Pkr F w b l err) (hk : Kp S w w') (hs : ∀ k, F k -> ¬ S k) : Pkr F w' b l err := by
 obtain ⟨hb, v, hx, ho, hv⟩ := h
 exact ⟨hb, v, hx.kp hk (hs b hb), own_kp ho hk fun k e => hs k (hv k e), hv⟩
theorem Pkr.kp_box {F : Nat -> Prop} {w w' : World} {b g : Nat} {l : List UInt8} {err : Int} {t : TypeId} {cs : Array Value} (h : Pkr F w b l err) (hk : Kp (fun k => k = g) w w') (hg : Box w g t cs) (h1 : 200 ≠ t) (h2 : 5 ≠ t) : Pkr F w' b l err := by
 obtain ⟨hb, v, hx, ho, hv⟩ := h
 exact ⟨hb, v, hx.kp hk (hx.type_ne hg h1), own_kp ho hk fun k e e' => hg.own_ne ho h2 (by rw [e, e']), hv⟩
theorem new_any (F : Nat -> Prop) (w : World) (hF : F w.heap.size) :
  Calls Tryz.prog 111 #[] w fun e w' => e = .returned (.pointer (some ⟨w.heap.size, 0, none⟩)) /\ Pkr F w' w.heap.size [] 0 /\ Kp (fun _ => False) w w' := by
 go_enter Tryz.func111, Tryz.ntmps111
 go_wp2_with fail
 go_ret
 exact ⟨rfl, ⟨hF, .slice none 0 0, Box.new _ _ _, World.ownsRow_nil _ _ _ _, fun k h => by cases h⟩, (Kp.refl _ _).alloc _⟩
section
variable {F : Nat -> Prop} {w : World} {b : Nat} {l : List UInt8}
theorem add_fine (h : Pkr F w b l 0) (hF : ∀ k, w.heap.size <= k -> F k) (s : List UInt8) (A : Option Addr) (n c : Nat) (hn : s.length = n) (hr : Rd w A s) (hlen : l.length + s.length <= 140737488355328) :
  Calls Tryz.prog 153 #[.pointer (some ⟨b, 0, none⟩), .slice A n c] w fun e w' => e = .returned (.pointer (some ⟨b, 0, none⟩)) /\ Pkr F w' b (l ++ s) 0 /\ Kp F w w' := by
 obtain ⟨i0, hi, hz0, hz1, hz2⟩ := info_parts info_byte
 obtain ⟨hb, v, hx, ho, hv⟩ := h
 have c0 := hx.cell 0
 have c1 := hx.cell 1
 simp at c0 c1
 have Hx := hHd hx
 have Ho := hHd ho
 have Hr := hHd hr
 have Hn := hHd hn
 clear hx ho hr hn
 go_enter Tryz.func153, Tryz.ntmps153
 go_wp2_with (at_builtin; refine wpList_put _ rfl (.tmp 18) (.tmp 19) 50 rfl 5 i0 Tryz.underlying50 hi hz0 hz1 hz2 v rfl l s Ho.out A n c rfl Hn.out Hr.out hlen ?_)
 intro v' w1 hown hg hat
 have hx1 := Hx.out.grown hg (fun e => Hx.out.own_ne Ho.out (by decide) e.symm)
 have c0' := hx1.cell 0
 have f0' := hx1.free 0
 simp at c0'
 have Hx1 := hHd hx1
 obtain ⟨A', c', rfl⟩ := own_shape hown
 have Hown := hHd hown
 have Hg := hHd hg
 have Hat := hHd hat
 clear hown hg hat hx1 c0 c1
 go_wp2_with fail
 go_ret
 have hf : ∀ k, (Value.slice A' (l.length + s.length) c').ownBlock = some k -> F k := by
  intro k hk
  rcases Hat.out with e | e <;> rw [e] at hk
  ·exact hv k hk
  ·cases hk
   exact hF _ (Nat.le_refl _)
 have hx2 := Hx1.out.put 0 (.slice A' (l.length + s.length) c')
 simp at hx2
 have hne : (Value.slice A' (l.length + s.length) c').ownBlock ≠ some b := Hx1.out.own_ne Hown.out (by decide)
 refine ⟨rfl, ⟨hb, .slice A' (l.length + s.length) c', hx2, by rw [List.length_append]; exact ownsRow_setCell_other Hown.out hne _, hf⟩, ?_⟩
 exact ((Kp.refl F w).grown Hg.out fun k hk => .inr (hv k hk)).setCell (.inr hb) _
theorem add_failed {err : Int} (h : Pkr F w b l err) (he : err ≠ 0) (v2 : Value) :
  Calls Tryz.prog 153 #[.pointer (some ⟨b, 0, none⟩), v2] w fun e w' => e = .returned (.pointer (some ⟨b, 0, none⟩)) /\ w = w' := by
 obtain ⟨hb, v, hx, ho, hv⟩ := h
 have c1 := hx.cell 1
 simp at c1
 have hne : (err == 0) = false := by simpa using he
 clear hx ho he
 go_enter Tryz.func153, Tryz.ntmps153
 go_wp2_with fail
 go_ret
 exact ⟨rfl, rfl⟩
theorem add_nil (v2 : Value) (w : World) :
  Calls Tryz.prog 153 #[.pointer none, v2] w fun e w' => e = .returned (.pointer none) /\ w = w' := by
 go_enter Tryz.func153, Tryz.ntmps153
 go_wp2_with fail
 go_ret
 exact ⟨rfl, rfl⟩
end
end Go.Proofs.YtepaeliamhjgiaaGreatDoor
