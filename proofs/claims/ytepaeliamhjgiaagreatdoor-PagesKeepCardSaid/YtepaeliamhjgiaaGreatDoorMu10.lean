/- The law of pages, part 10 of 55: Read ReadH OCalls PkA PkB CrcSum. -/
import Derived.Test.YtepaeliamhjgiaaGreatDoorMu9
import Derived.Deep.Cut
import Derived.Deep.RegionWith
import Derived.Test.YtepaeliamhjgiaaGreatDoorMu1
import Derived.Test.YtepaeliamhjgiaaGreatDoorChecked
import Derived.IntWalk
import Derived.Laws.BitsAllLaws
set_option maxHeartbeats 16000000
set_option maxRecDepth 100000
namespace Go.Proofs.YtepaeliamhjgiaaGreatDoor
open Go.RowKit
theorem read_num_fine {G : Nat -> Prop} {w : World} {b : Nat} {l : List UInt8} (h : Opn G w b l none) (n : Nat) (hn : n <= l.length) (hn8 : n <= 8) :
  Calls Tryz.prog 141 #[.pointer (some ⟨b, 0, none⟩), .int .i64 n, .func (Fn.func 142) #[] #[]] w fun e w' => e = .returned (.int .u64 (numN (l.take n))) /\ Opn G w' b (l.drop n) none /\ Kp (fun k => k = b) w w' := by
 have hlen : (l.take n).length = n := by simp; omega
 have H := hHd h
 obtain ⟨_, A0, c0, fv, hx, _, _, _, _, h5⟩ := h
 cases h5
 have Hl := hHd hlen
 clear hlen
 go_enter Tryz.func141, Tryz.ntmps141
 go_wp2_with fail
 refine (reader_fine b w _ hx).mono ?_
 rintro e w1 ⟨rfl, rfl⟩
 clear hx
 go_wp2_with fail
 refine (next_fine H.out n hn).mono ?_
 rintro e w1 ⟨A, c, rfl, hc1, hc2, hr, _, ho, hk⟩
 have Hr := hHd hr
 have Ho := hHd ho
 have Hk := hHd hk
 clear hr ho hk
 go_wp2_with fail
 have ht := number_rd A c (l.take n) w1 (by rw [Hl.out]; exact hn8) Hr.out
 rw [Hl.out] at ht
 refine ht.mono ?_
 rintro e w2 ⟨rfl, rfl⟩
 go_wp2_with fail
 go_ret
 exact ⟨rfl, Ho.out, Hk.out⟩
theorem read_num_short {G : Nat -> Prop} {w : World} {b : Nat} {l : List UInt8} (h : Opn G w b l none) (hG : G w.heap.size) (n : Int) (hn : n < 0 \/ (l.length : Int) < n) :
  Calls Tryz.prog 141 #[.pointer (some ⟨b, 0, none⟩), .int .i64 n, .func (Fn.func 142) #[] #[]] w fun e w' => e = .returned (.int .u64 0) /\ Opn G w' b l (some 3) /\ Kp (fun k => k = b) w w' := by
 have H := hHd h
 have Hn := hHd hn
 obtain ⟨_, A0, c0, fv, hx, _, _, _, _, h5⟩ := h
 cases h5
 clear hn
 go_enter Tryz.func141, Tryz.ntmps141
 go_wp2_with fail
 refine (reader_fine b w _ hx).mono ?_
 rintro e w1 ⟨rfl, rfl⟩
 clear hx
 go_wp2_with fail
 refine (next_fails H.out hG n Hn.out).mono ?_
 rintro e w1 ⟨rfl, ho, hk⟩
 have Ho := hHd ho
 have Hk := hHd hk
 clear ho hk
 go_wp2_with fail
 go_ret
 exact ⟨rfl, Ho.out, Hk.out⟩
theorem read_num_failed {G : Nat -> Prop} {w : World} {b : Nat} {l : List UInt8} {e0 : Int} (h : Opn G w b l (some e0)) (he : e0 ≠ 0) (n : Int) :
  Calls Tryz.prog 141 #[.pointer (some ⟨b, 0, none⟩), .int .i64 n, .func (Fn.func 142) #[] #[]] w fun e w' => e = .returned (.int .u64 0) /\ Opn G w' b l (some e0) /\ Kp (fun k => k = b) w w' := by
 have H := hHd h
 obtain ⟨_, A0, c0, fv, hx, _, _, _, _, g, rfl, _, hg⟩ := h
 have hne : (e0 == 0) = false := by simpa using he
 have hne2 : (e0 != 0) = true := by simpa using he
 go_enter Tryz.func141, Tryz.ntmps141
 go_wp2_with fail
 refine (reader_fails b g w _ hx).mono ?_
 rintro e w1 ⟨rfl, rfl⟩
 clear hx
 go_wp2_with fail
 refine (failing1 g n e0 w hg).mono ?_
 rintro e w1 ⟨rfl, q, rfl⟩
 clear hg
 go_wp2_with fail
 go_ret
 exact ⟨rfl, H.out.kp ((Kp.refl (fun _ => False) w).drewN q) (fun _ _ h => h), (Kp.refl _ w).drewN q⟩
theorem read_text_fine {G : Nat -> Prop} {w : World} {b : Nat} {l : List UInt8} (h : Opn G w b l none) (n : Nat) (hn : n <= l.length) :
  Calls Tryz.prog 143 #[.pointer (some ⟨b, 0, none⟩), .int .i64 n, .func (Fn.func 144) #[] #[]] w fun e w' => e = .returned (.string ⟨(l.take n).toArray⟩) /\ Opn G w' b (l.drop n) none /\ Kp (fun k => k = b) w w' := by
 have hlen : (l.take n).length = n := by simp; omega
 have H := hHd h
 obtain ⟨_, A0, c0, fv, hx, _, _, _, _, h5⟩ := h
 cases h5
 have Hl := hHd hlen
 clear hlen
 go_enter Tryz.func143, Tryz.ntmps143
 go_wp2_with fail
 refine (reader_fine b w _ hx).mono ?_
 rintro e w1 ⟨rfl, rfl⟩
 clear hx
 go_wp2_with fail
 refine (next_fine H.out n hn).mono ?_
 rintro e w1 ⟨A, c, rfl, hc1, hc2, hr, _, ho, hk⟩
 have Hr := hHd hr
 have Ho := hHd ho
 have Hk := hHd hk
 clear hr ho hk
 go_wp2_with fail
 have ht := text1_rd A c (l.take n) w1 Hr.out
 rw [Hl.out] at ht
 refine ht.mono ?_
 rintro e w2 ⟨rfl, rfl⟩
 go_wp2_with fail
 go_ret
 exact ⟨rfl, Ho.out, Hk.out⟩
theorem read_text_short {G : Nat -> Prop} {w : World} {b : Nat} {l : List UInt8} (h : Opn G w b l none) (hG : G w.heap.size) (n : Int) (hn : n < 0 \/ (l.length : Int) < n) :
  Calls Tryz.prog 143 #[.pointer (some ⟨b, 0, none⟩), .int .i64 n, .func (Fn.func 144) #[] #[]] w fun e w' => e = .returned (.string ⟨#[]⟩) /\ Opn G w' b l (some 3) /\ Kp (fun k => k = b) w w' := by
 have H := hHd h
 have Hn := hHd hn
 obtain ⟨_, A0, c0, fv, hx, _, _, _, _, h5⟩ := h
 cases h5
 clear hn
 go_enter Tryz.func143, Tryz.ntmps143
 go_wp2_with fail
 refine (reader_fine b w _ hx).mono ?_
 rintro e w1 ⟨rfl, rfl⟩
 clear hx
 go_wp2_with fail
 refine (next_fails H.out hG n Hn.out).mono ?_
 rintro e w1 ⟨rfl, ho, hk⟩
 have Ho := hHd ho
 have Hk := hHd hk
 clear ho hk
 go_wp2_with fail
 go_ret
 exact ⟨rfl, Ho.out, Hk.out⟩
theorem read_name_fine {G : Nat -> Prop} {w : World} {b : Nat} {x : UInt8} {l : List UInt8} (h : Opn G w b (x :: l) none) (n : Nat) (hn : n <= l.length) :
  Calls Tryz.prog 143 #[.pointer (some ⟨b, 0, none⟩), .int .i64 (n + 1 : Nat), .func (Fn.func 172) #[] #[]] w fun e w' => e = .returned (.string ⟨(l.take n).toArray⟩) /\ Opn G w' b (l.drop n) none /\ Kp (fun k => k = b) w w' := by
 have hlen : (l.take n).length = n := by simp; omega
 have H := hHd h
 obtain ⟨_, A0, c0, fv, hx, _, _, _, _, h5⟩ := h
 cases h5
 have Hl := hHd hlen
 clear hlen
 have Hn : Hid (n + 1 <= (x :: l).length) := by show n + 1 <= l.length + 1; omega
 obtain ⟨m, hm⟩ : ∃ m : Nat, m = n + 1 := ⟨_, rfl⟩
 rw [<- hm]
 have Hm := hHd hm
 clear hm
 go_enter Tryz.func143, Tryz.ntmps143
 go_wp2_with fail
 refine (reader_fine b w _ hx).mono ?_
 rintro e w1 ⟨rfl, rfl⟩
 clear hx
 go_wp2_with fail
 refine (next_fine H.out m (by rw [Hm.out]; exact Hn.out)).mono ?_
 rintro e w1 ⟨A, c, rfl, hc1, hc2, hr, _, ho, hk⟩
 rw [Hm.out] at hr ho hc1
 have Hr := hHd hr
 have Ho := hHd ho
 have Hk := hHd hk
 clear hr ho hk
 go_wp2_with fail
 have ht := name1_rd A c x (l.take n) w1 (by rw [Hl.out]; exact hc1) hc2 Hr.out
 rw [Hl.out, <- Hm.out] at ht
 refine ht.mono ?_
 rintro e w2 ⟨rfl, rfl⟩
 go_wp2_with fail
 go_ret
 exact ⟨rfl, Ho.out, Hk.out⟩
theorem read_name_failed {G : Nat -> Prop} {w : World} {b : Nat} {l : List UInt8} {e0 : Int} (h : Opn G w b l (some e0)) (he : e0 ≠ 0) (n : Int) :
  Calls Tryz.prog 143 #[.pointer (some ⟨b, 0, none⟩), .int .i64 n, .func (Fn.func 172) #[] #[]] w fun e w' => e = .returned (.string ⟨#[]⟩) /\ Opn G w' b l (some e0) /\ Kp (fun k => k = b) w w' := by
 have H := hHd h
 obtain ⟨_, A0, c0, fv, hx, _, _, _, _, g, rfl, _, hg⟩ := h
 have hne : (e0 == 0) = false := by simpa using he
 have hne2 : (e0 != 0) = true := by simpa using he
 go_enter Tryz.func143, Tryz.ntmps143
 go_wp2_with fail
 refine (reader_fails b g w _ hx).mono ?_
 rintro e w1 ⟨rfl, rfl⟩
 clear hx
 go_wp2_with fail
 refine (failing1 g n e0 w hg).mono ?_
 rintro e w1 ⟨rfl, q, rfl⟩
 clear hg
 go_wp2_with fail
 go_ret
 exact ⟨rfl, H.out.kp ((Kp.refl (fun _ => False) w).drewN q) (fun _ _ h => h), (Kp.refl _ w).drewN q⟩
theorem Kp.setRow {S : Nat -> Prop} {w w' : World} (h : Kp S w w') {g : Nat} (hp : w.heap.size <= g \/ S g) (cs : Array Value) : Kp S w (w'.setRow g cs) :=
 ⟨h.os, h.tape, h.output, by have := h.size; simpa using this, fun k hk hs => by
  rw [setRow_other w' g k cs (by rintro rfl; rcases hp with hp | hp; omega; exact hs hp)]
  exact h.block k hk hs⟩
theorem Box.setRow {w : World} {g : Nat} {t : TypeId} {cs : Array Value} (h : Box w g t cs) (cs' : Array Value) : Box (w.setRow g cs') g t cs' := setRow_heap w g cs cs' t (0, 0) h
theorem Opn.on {G : Nat -> Prop} {w w' : World} {b g : Nat} {l : List UInt8} {f : Option Int} (h : Opn (fun k => G k /\ k ≠ g) w b l f) (hk : Kp (fun k => k = g) w w') : Opn G w' b l f :=
 (h.kp hk fun _ hk => hk.2).mono fun _ hk => hk.1
theorem Kp.laid (w : World) (o : Obj) (g : Nat) (cs : Array Value) : Kp (fun k => k = g) w ((w.alloc o).setRow g cs) := ((Kp.refl (fun k => k = g) w).alloc o).setRow (.inr rfl) cs
def wdB (n : Int) : Bool := n == 1 || n == 2 || n == 4 || n == 8
theorem wdB_nat {n : Nat} (h : wdB n = true) : n = 1 \/ n = 2 \/ n = 4 \/ n = 8 := by
 simp [wdB] at h
 omega
theorem isWidth_any (n : Int) (w : World) :
  Calls Tryz.prog 140 #[.int .i64 n] w fun e w' => e = .returned (.bool (wdB n)) /\ w = w' := by
 go_enter Tryz.func140, Tryz.ntmps140
 go_wp2
 all_goals go_ret
 all_goals refine ⟨?_, rfl⟩
 all_goals (subst_vars; first | rfl | simp [wdB])
section
variable {G : Nat -> Prop} {w : World} {b : Nat} {l : List UInt8}
theorem take_fine (h : Opn G w b l none) (n : Nat) (hw : wdB n = true) (hn : n <= l.length) :
  Calls Tryz.prog 91 #[.pointer (some ⟨b, 0, none⟩), .int .i64 n] w fun e w' => e = .returned (.int .u64 (numN (l.take n))) /\ Opn G w' b (l.drop n) none /\ Kp (fun k => k = b) w w' := by
 have H := hHd h
 have h8 : n <= 8 := by have := wdB_nat hw; omega
 clear h
 go_enter Tryz.func91, Tryz.ntmps91
 go_wp2_with fail
 refine (isWidth_any _ _).mono ?_
 rintro e w1 ⟨rfl, rfl⟩
 go_wp2_with fail
 refine (read_num_fine H.out n hn h8).mono ?_
 rintro e w1 ⟨rfl, ho, hk⟩
 have Ho := hHd ho
 have Hk := hHd hk
 clear ho hk
 go_wp2_with fail
 go_ret
 exact ⟨rfl, Ho.out, Hk.out⟩
theorem otext_fine (h : Opn G w b l none) (n : Nat) (hn : n <= l.length) :
  Calls Tryz.prog 92 #[.pointer (some ⟨b, 0, none⟩), .int .i64 n] w fun e w' => e = .returned (.string ⟨(l.take n).toArray⟩) /\ Opn G w' b (l.drop n) none /\ Kp (fun k => k = b) w w' := by
 have H := hHd h
 clear h
 go_enter Tryz.func92, Tryz.ntmps92
 go_wp2_with fail
 refine (read_text_fine H.out n hn).mono ?_
 rintro e w1 ⟨rfl, ho, hk⟩
 have Ho := hHd ho
 have Hk := hHd hk
 clear ho hk
 go_wp2_with fail
 go_ret
 exact ⟨rfl, Ho.out, Hk.out⟩
theorem left_any {f : Option Int} (h : Opn G w b l f) :
  Calls Tryz.prog 93 #[.pointer (some ⟨b, 0, none⟩)] w fun e w' => e = .returned (.int .i64 l.length) /\ w = w' := by
 obtain ⟨_, A, c, fv, hx, _, _, _, _, _⟩ := h
 have c0 := hx.cell 0
 simp at c0
 clear hx
 go_enter Tryz.func93, Tryz.ntmps93
 go_wp2_with fail
 go_ret
 exact ⟨rfl, rfl⟩
theorem oname_fine {x : UInt8} (h : Opn G w b (x :: l) none) (hn : x.toNat <= l.length) :
  Calls Tryz.prog 157 #[.pointer (some ⟨b, 0, none⟩)] w fun e w' => e = .returned (.string ⟨(l.take x.toNat).toArray⟩) /\ Opn G w' b (l.drop x.toNat) none /\ Kp (fun k => k = b) w w' := by
 have H := hHd h
 obtain ⟨_, A, c, fv, hx, h1, h2, hr, _, h5⟩ := h
 cases h5
 have c0 := hx.cell 0
 simp at c0
 rcases hr with hr | ⟨b1, o1, rfl, hc⟩
 ·cases hr
 have cx := hc 0 x rfl
 simp at cx
 have hx8 := x.toNat_lt
 unfold maxLen at h2
 simp at h1
 clear hx hc
 go_enter Tryz.func157, Tryz.ntmps157
 go_wp2_with fail
 refine (left_any H.out).mono ?_
 rintro e w1 ⟨rfl, rfl⟩
 go_wp2_with fail
 rw [show (1 + (x.toNat : Int)) = ((x.toNat + 1 : Nat) : Int) from by omega]
 refine (read_name_fine H.out x.toNat hn).mono ?_
 rintro e w1 ⟨rfl, ho, hk⟩
 have Ho := hHd ho
 have Hk := hHd hk
 clear ho hk
 go_wp2_with fail
 go_ret
 exact ⟨rfl, Ho.out, Hk.out⟩
theorem err_fine (h : Opn G w b l none) :
  Calls Tryz.prog 145 #[.pointer (some ⟨b, 0, none⟩)] w fun e w' => e = .returned (.int .i64 0) /\ Opn G w' b l none /\ Kp (fun k => k = b) w w' := by
 have H := hHd h
 obtain ⟨_, A, c, fv, hx, _, _, _, _, h5⟩ := h
 cases h5
 go_enter Tryz.func145, Tryz.ntmps145
 go_wp2_with fail
 refine (reader_fine b w _ hx).mono ?_
 rintro e w1 ⟨rfl, rfl⟩
 clear hx
 go_wp2_with fail
 have hnx := next_fine H.out 0 (Nat.zero_le _)
 rw [show ((0 : Nat) : Int) = 0 from rfl] at hnx
 refine hnx.mono ?_
 rintro e w1 ⟨A1, c1, rfl, _, _, _, _, ho, hk⟩
 have Ho := hHd ho
 have Hk := hHd hk
 clear ho hk hnx
 go_wp2_with fail
 go_ret
 exact ⟨rfl, Ho.out, Hk.out⟩
end
def Pk (F : Nat -> Prop) (w : World) (p : Value) (l : List UInt8) (err : Int) : Prop :=
 (err ≠ 0 -> l = []) /\ ((p = .pointer none /\ err = 1) \/ ∃ b, p = .pointer (some ⟨b, 0, none⟩) /\ Pkr F w b l err)
theorem Pk.kp {F S : Nat -> Prop} {w w' : World} {p : Value} {l : List UInt8} {err : Int} (h : Pk F w p l err) (hk : Kp S w w') (hs : ∀ k, F k -> ¬ S k) : Pk F w' p l err := by
 obtain ⟨h0, h | ⟨b, e, h⟩⟩ := h
 ·exact ⟨h0, .inl h⟩
 ·exact ⟨h0, .inr ⟨b, e, h.kp hk hs⟩⟩
theorem Pk.still {F : Nat -> Prop} {w w' : World} {p : Value} {l : List UInt8} {err : Int} (h : Pk F w p l err) (hk : Kp (fun _ => False) w w') : Pk F w' p l err := h.kp hk fun _ _ h => h
theorem Pk.kp_box {F : Nat -> Prop} {w w' : World} {p : Value} {g : Nat} {l : List UInt8} {err : Int} {t : TypeId} {cs : Array Value} (h : Pk F w p l err) (hk : Kp (fun k => k = g) w w') (hg : Box w g t cs) (h1 : 200 ≠ t) (h2 : 5 ≠ t) : Pk F w' p l err := by
 obtain ⟨h0, h | ⟨b, e, h⟩⟩ := h
 ·exact ⟨h0, .inl h⟩
 ·exact ⟨h0, .inr ⟨b, e, h.kp_box hk hg h1 h2⟩⟩
def putS (l : List UInt8) (err : Int) (s : List UInt8) : List UInt8 := if err = 0 then l ++ s else l
section
variable {F : Nat -> Prop} {w : World} {p : Value} {l : List UInt8} {err : Int}
theorem add_any (h : Pk F w p l err) (hF : ∀ k, w.heap.size <= k -> F k) (s : List UInt8) (A : Option Addr) (n c : Nat) (hn : s.length = n) (hr : Rd w A s) (hlen : l.length + s.length <= 140737488355328) :
  Calls Tryz.prog 153 #[p, .slice A n c] w fun e w' => e = .returned p /\ Pk F w' p (putS l err s) err /\ Kp F w w' := by
 by_cases he : err = 0
 ·subst he
  obtain ⟨h0, ⟨_, h1⟩ | ⟨b, rfl, h⟩⟩ := h
  ·cases h1
  ·refine (add_fine h hF s A n c hn hr hlen).mono ?_
   rintro e w' ⟨rfl, h2, h3⟩
   exact ⟨rfl, ⟨fun h => absurd rfl h, .inr ⟨b, rfl, by simpa [putS] using h2⟩⟩, h3⟩
 ·have hp : putS l err s = l := by simp [putS, he]
  rw [hp]
  obtain ⟨h0, ⟨rfl, h1⟩ | ⟨b, rfl, h⟩⟩ := h
  ·refine (add_nil _ w).mono ?_
   rintro e w' ⟨rfl, rfl⟩
   exact ⟨rfl, ⟨h0, .inl ⟨rfl, h1⟩⟩, Kp.refl _ _⟩
  ·refine (add_failed h he _).mono ?_
   rintro e w' ⟨rfl, rfl⟩
   exact ⟨rfl, ⟨h0, .inr ⟨b, rfl, h⟩⟩, Kp.refl _ _⟩
theorem beN_rd1 (w : World) (n : Nat) (cs : Array Value) (t : TypeId) (g : Nat) (hg : w.heap[g]? = some (.cells cs t (0, 0))) (hs : ∀ i, i < 1 -> cs[7 + i]? = some (.int .u8 ((n / 256 ^ (0 - i) % 256 : Nat) : Int))) : Rd w (some ⟨g, 7, none⟩) (beN 1 n) := by
 refine .inr ⟨g, 7, rfl, fun j u hu => ?_⟩
 rw [cell_of_row w g (7 + j) cs t (0, 0) hg]
 have hj : j < 1 := by
  have := (List.getElem?_eq_some_iff.1 hu).1
  rwa [beN_length] at this
 rw [hs j hj]
 rw [beN_get 1 n j hj] at hu
 cases hu
 simp
theorem put_fine1 (h : Pk F w p l err) (hF : ∀ k, w.heap.size <= k -> F k) (n : Nat) (hn : n < 256) (hlen : l.length + 1 <= 140737488355328) :
  Calls Tryz.prog 112 #[p, .int .i64 1, .int .u64 n] w fun e w' => e = .returned p /\ Pk F w' p (putS l err (beN 1 n)) err /\ Kp F w w' := by
 have H := hHd h
 have HF := hHd hF
 clear h hF
 have hsh : ((n : Int) / 256 != 0) = false := by simp; omega
 go_enter Tryz.func112, Tryz.ntmps112
 go_wp2_with fail
 refine (isWidth_any _ _).mono ?_
 rintro e w1 ⟨rfl, rfl⟩
 have hwd : wdB 1 = true := rfl
 go_wp2_with fail
 refine wp_loop_rounds 9 ?_
 iterate 9
  rw [rounds_succ]
  go_wp2_with fail
 refine (add_any (H.out.still ((Kp.refl _ w).alloc _)) (fun k hk => HF.out k (by simp at hk; omega)) (beN 1 n) _ 1 1 (beN_length _ _) (beN_rd1 _ n _ 202 w.heap.size (Box.new w _ _) ?cells) (by rw [beN_length]; exact hlen)).mono ?_
 case cells =>
  intro i hi
  obtain rfl := (by omega : i = 0)
  all_goals simp only [Nat.reduceAdd, Nat.reduceSub, Nat.reducePow, List.getElem?_toArray, List.getElem?_cons_succ, List.getElem?_cons_zero, Option.some.injEq, Value.int.injEq, true_and, Nat.div_one]
  all_goals omega
 rintro e w1 ⟨rfl, h1, h2⟩
 have H1 := hHd h1
 have H2 := hHd h2
 clear h1 h2
 go_wp2_with fail
 go_ret
 exact ⟨rfl, H1.out, ((Kp.refl F w).alloc _).trans H2.out⟩
theorem beN_rd2 (w : World) (n : Nat) (cs : Array Value) (t : TypeId) (g : Nat) (hg : w.heap[g]? = some (.cells cs t (0, 0))) (hs : ∀ i, i < 2 -> cs[6 + i]? = some (.int .u8 ((n / 256 ^ (1 - i) % 256 : Nat) : Int))) : Rd w (some ⟨g, 6, none⟩) (beN 2 n) := by
 refine .inr ⟨g, 6, rfl, fun j u hu => ?_⟩
 rw [cell_of_row w g (6 + j) cs t (0, 0) hg]
 have hj : j < 2 := by
  have := (List.getElem?_eq_some_iff.1 hu).1
  rwa [beN_length] at this
 rw [hs j hj]
 rw [beN_get 2 n j hj] at hu
 cases hu
 simp
theorem put_fine2 (h : Pk F w p l err) (hF : ∀ k, w.heap.size <= k -> F k) (n : Nat) (hn : n < 65536) (hlen : l.length + 2 <= 140737488355328) :
  Calls Tryz.prog 112 #[p, .int .i64 2, .int .u64 n] w fun e w' => e = .returned p /\ Pk F w' p (putS l err (beN 2 n)) err /\ Kp F w w' := by
 have H := hHd h
 have HF := hHd hF
 clear h hF
 have hsh : ((n : Int) / 65536 != 0) = false := by simp; omega
 go_enter Tryz.func112, Tryz.ntmps112
 go_wp2_with fail
 refine (isWidth_any _ _).mono ?_
 rintro e w1 ⟨rfl, rfl⟩
 have hwd : wdB 2 = true := rfl
 go_wp2_with fail
 refine wp_loop_rounds 9 ?_
 iterate 9
  rw [rounds_succ]
  go_wp2_with fail
 refine (add_any (H.out.still ((Kp.refl _ w).alloc _)) (fun k hk => HF.out k (by simp at hk; omega)) (beN 2 n) _ 2 2 (beN_length _ _) (beN_rd2 _ n _ 202 w.heap.size (Box.new w _ _) ?cells) (by rw [beN_length]; exact hlen)).mono ?_
 case cells =>
  intro i hi
  obtain rfl | rfl := (by omega : i = 0 \/ i = 1)
  all_goals simp only [Nat.reduceAdd, Nat.reduceSub, Nat.reducePow, List.getElem?_toArray, List.getElem?_cons_succ, List.getElem?_cons_zero, Option.some.injEq, Value.int.injEq, true_and, Nat.div_one]
  all_goals omega
 rintro e w1 ⟨rfl, h1, h2⟩
 have H1 := hHd h1
 have H2 := hHd h2
 clear h1 h2
 go_wp2_with fail
 go_ret
 exact ⟨rfl, H1.out, ((Kp.refl F w).alloc _).trans H2.out⟩
theorem beN_rd4 (w : World) (n : Nat) (cs : Array Value) (t : TypeId) (g : Nat) (hg : w.heap[g]? = some (.cells cs t (0, 0))) (hs : ∀ i, i < 4 -> cs[4 + i]? = some (.int .u8 ((n / 256 ^ (3 - i) % 256 : Nat) : Int))) : Rd w (some ⟨g, 4, none⟩) (beN 4 n) := by
 refine .inr ⟨g, 4, rfl, fun j u hu => ?_⟩
 rw [cell_of_row w g (4 + j) cs t (0, 0) hg]
 have hj : j < 4 := by
  have := (List.getElem?_eq_some_iff.1 hu).1
  rwa [beN_length] at this
 rw [hs j hj]
 rw [beN_get 4 n j hj] at hu
 cases hu
 simp
theorem put_fine4 (h : Pk F w p l err) (hF : ∀ k, w.heap.size <= k -> F k) (n : Nat) (hn : n < 4294967296) (hlen : l.length + 4 <= 140737488355328) :
  Calls Tryz.prog 112 #[p, .int .i64 4, .int .u64 n] w fun e w' => e = .returned p /\ Pk F w' p (putS l err (beN 4 n)) err /\ Kp F w w' := by
 have H := hHd h
 have HF := hHd hF
 clear h hF
 have hsh : ((n : Int) / 4294967296 != 0) = false := by simp; omega
 go_enter Tryz.func112, Tryz.ntmps112
 go_wp2_with fail
 refine (isWidth_any _ _).mono ?_
 rintro e w1 ⟨rfl, rfl⟩
 have hwd : wdB 4 = true := rfl
 go_wp2_with fail
 refine wp_loop_rounds 9 ?_
 iterate 9
  rw [rounds_succ]
  go_wp2_with fail
 refine (add_any (H.out.still ((Kp.refl _ w).alloc _)) (fun k hk => HF.out k (by simp at hk; omega)) (beN 4 n) _ 4 4 (beN_length _ _) (beN_rd4 _ n _ 202 w.heap.size (Box.new w _ _) ?cells) (by rw [beN_length]; exact hlen)).mono ?_
 case cells =>
  intro i hi
  obtain rfl | rfl | rfl | rfl := (by omega : i = 0 \/ i = 1 \/ i = 2 \/ i = 3)
  all_goals simp only [Nat.reduceAdd, Nat.reduceSub, Nat.reducePow, List.getElem?_toArray, List.getElem?_cons_succ, List.getElem?_cons_zero, Option.some.injEq, Value.int.injEq, true_and, Nat.div_one]
  all_goals omega
 rintro e w1 ⟨rfl, h1, h2⟩
 have H1 := hHd h1
 have H2 := hHd h2
 clear h1 h2
 go_wp2_with fail
 go_ret
 exact ⟨rfl, H1.out, ((Kp.refl F w).alloc _).trans H2.out⟩
theorem beN_rd8 (w : World) (n : Nat) (cs : Array Value) (t : TypeId) (g : Nat) (hg : w.heap[g]? = some (.cells cs t (0, 0))) (hs : ∀ i, i < 8 -> cs[0 + i]? = some (.int .u8 ((n / 256 ^ (7 - i) % 256 : Nat) : Int))) : Rd w (some ⟨g, 0, none⟩) (beN 8 n) := by
 refine .inr ⟨g, 0, rfl, fun j u hu => ?_⟩
 rw [cell_of_row w g (0 + j) cs t (0, 0) hg]
 have hj : j < 8 := by
  have := (List.getElem?_eq_some_iff.1 hu).1
  rwa [beN_length] at this
 rw [hs j hj]
 rw [beN_get 8 n j hj] at hu
 cases hu
 simp
theorem put_fine8 (h : Pk F w p l err) (hF : ∀ k, w.heap.size <= k -> F k) (n : Nat) (hn : n < 18446744073709551616) (hlen : l.length + 8 <= 140737488355328) :
  Calls Tryz.prog 112 #[p, .int .i64 8, .int .u64 n] w fun e w' => e = .returned p /\ Pk F w' p (putS l err (beN 8 n)) err /\ Kp F w w' := by
 have H := hHd h
 have HF := hHd hF
 clear h hF
 go_enter Tryz.func112, Tryz.ntmps112
 go_wp2_with fail
 refine (isWidth_any _ _).mono ?_
 rintro e w1 ⟨rfl, rfl⟩
 have hwd : wdB 8 = true := rfl
 go_wp2_with fail
 refine wp_loop_rounds 9 ?_
 iterate 9
  rw [rounds_succ]
  go_wp2_with fail
 refine (add_any (H.out.still ((Kp.refl _ w).alloc _)) (fun k hk => HF.out k (by simp at hk; omega)) (beN 8 n) _ 8 8 (beN_length _ _) (beN_rd8 _ n _ 202 w.heap.size (Box.new w _ _) ?cells) (by rw [beN_length]; exact hlen)).mono ?_
 case cells =>
  intro i hi
  obtain rfl | rfl | rfl | rfl | rfl | rfl | rfl | rfl := (by omega : i = 0 \/ i = 1 \/ i = 2 \/ i = 3 \/ i = 4 \/ i = 5 \/ i = 6 \/ i = 7)
  all_goals simp only [Nat.reduceAdd, Nat.reduceSub, Nat.reducePow, List.getElem?_toArray, List.getElem?_cons_succ, List.getElem?_cons_zero, Option.some.injEq, Value.int.injEq, true_and, Nat.div_one]
  all_goals omega
 rintro e w1 ⟨rfl, h1, h2⟩
 have H1 := hHd h1
 have H2 := hHd h2
 clear h1 h2
 go_wp2_with fail
 go_ret
 exact ⟨rfl, H1.out, ((Kp.refl F w).alloc _).trans H2.out⟩
end
abbrev tb (s : ByteArray) : List UInt8 := s.data.toList
theorem rd_text (w : World) (s : ByteArray) (cap : Nat) (t : TypeId) (fz : Nat × Nat) : Rd (w.alloc (.cells (bytesRow s cap) t fz)).drew (some ⟨w.heap.size, 0, none⟩) (tb s) := by
 refine .inr ⟨_, 0, rfl, fun j u hu => ?_⟩
 have hg : (w.alloc (.cells (bytesRow s cap) t fz)).drew.heap[w.heap.size]? = some (.cells (bytesRow s cap) t fz) := heap_alloc_new w _
 rw [cell_of_row _ _ _ _ t fz hg]
 have hj : j < s.data.size := by have := (List.getElem?_eq_some_iff.1 hu).1; simpa using this
 rw [bytesRow, Array.getElem?_append_left (by simpa using hj)]
 simp only [Nat.zero_add, Array.getElem?_map]
 rw [Array.getElem?_toList] at hu
 rw [hu]
 rfl
theorem putS_le (l : List UInt8) (err : Int) (s : List UInt8) : (putS l err s).length <= l.length + s.length := by
 unfold putS
 split <;> simp
section
variable {F : Nat -> Prop} {w : World} {p : Value} {l : List UInt8} {err : Int}
theorem text_any (h : Pk F w p l err) (hF : ∀ k, w.heap.size <= k -> F k) (s : ByteArray) (hlen : l.length + s.size <= 140737488355328) :
  Calls Tryz.prog 113 #[p, .string s] w fun e w' => e = .returned p /\ Pk F w' p (putS l err (tb s)) err /\ Kp F w w' := by
 have H := hHd h
 have HF := hHd hF
 clear h hF
 have hbs := run_bytes_of_string (P := Tryz.prog) w 9 50 5 s Tryz.underlying9 Tryz.underlying50 Tryz.underlying5
 generalize hcap : grownCap w s.size 0 5 = cap at hbs
 clear hcap
 generalize hrow : (bytesRow s cap).size = rs at hbs
 clear hrow
 go_enter Tryz.func113, Tryz.ntmps113
 go_wp2_with fail
 refine (add_any (H.out.still (((Kp.refl _ w).alloc _).drew)) (fun k hk => HF.out k (by simp at hk; omega)) (tb s) _ s.size cap rfl (rd_text w s cap _ _) hlen).mono ?_
 rintro e w1 ⟨rfl, h1, h2⟩
 have H1 := hHd h1
 have H2 := hHd h2
 clear h1 h2
 go_wp2_with fail
 go_ret
 exact ⟨rfl, H1.out, (((Kp.refl F w).alloc _).drew).trans H2.out⟩
theorem name_fine (h : Pk F w p l err) (hF : ∀ k, w.heap.size <= k -> F k) (s : ByteArray) (hs : s.size <= 255) (hlen : l.length + s.size + 1 <= 140737488355328) :
  Calls Tryz.prog 163 #[p, .string s] w fun e w' => e = .returned p /\ Pk F w' p (putS l err (UInt8.ofNat s.size :: tb s)) err /\ Kp F w w' := by
 have H := hHd h
 have HF := hHd hF
 clear h hF
 have hw : IntKind.u8.wrap (s.size : Int) = s.size := IntWalk.u8_in _ (by omega)
 go_enter Tryz.func163, Tryz.ntmps163
 go_wp2_with fail
 refine (add_any (H.out.still ((Kp.refl _ w).alloc _)) (fun k hk => HF.out k (by simp at hk; omega)) [UInt8.ofNat s.size] _ 1 1 rfl ?rd (by simp; omega)).mono ?_
 case rd =>
  refine .inr ⟨_, 0, rfl, fun j u hu => ?_⟩
  rcases j with _ | j
  ·rw [(Box.new w _ _).cell]
   cases hu
   have e : (UInt8.ofNat s.size).toNat = s.size := by simp; omega
   rw [e]
   rfl
  ·simp at hu
 rintro e w1 ⟨rfl, h1, h2⟩
 have H1 := hHd h1
 have H2 := hHd h2
 clear h1 h2
 go_wp2_with fail
 refine (text_any H1.out (fun k hk => HF.out k (by have := H2.out.size; simp at this; omega)) s (by have : (putS l err [UInt8.ofNat s.size]).length <= l.length + 1 := putS_le l err _; omega)).mono ?_
 rintro e w2 ⟨rfl, h3, h4⟩
 have H3 := hHd h3
 have H4 := hHd h4
 clear h3 h4
 go_wp2_with fail
 go_ret
 refine ⟨rfl, ?_, (((Kp.refl F w).alloc _).trans H2.out).trans H4.out⟩
 have e : putS (putS l err [UInt8.ofNat s.size]) err (tb s) = putS l err (UInt8.ofNat s.size :: tb s) := by
  unfold putS
  split <;> simp
 rw [<- e]
 exact H3.out
theorem bytes_ptr {b : Nat} (h : Pkr F w b l err) (hlen : l.length <= 140737488355328) :
  Calls Tryz.prog 114 #[.pointer (some ⟨b, 0, none⟩)] w fun e w' => ∃ v, e = .returned (.tuple #[v, .int .i64 err]) /\ Sl w' w.heap.size v l /\ Kp (fun _ => False) w w' := by
 have H := hHd h
 obtain ⟨hb, v, hx, ho, hv⟩ := h
 obtain ⟨A, c, rfl⟩ := own_shape ho
 have hr := Rd.of_own ho
 have c0 := hx.cell 0
 have c1 := hx.cell 1
 simp at c0 c1
 have Hx : Hid (Box w.drew b 200 #[.slice A l.length c, .int .i64 err]) := hx.drew
 have Hr : Hid (Rd w.drew A l) := hr
 clear hx hr ho
 go_enter Tryz.func114, Tryz.ntmps114
 go_wp2_with fail
 go_region_with (go_at_call 139; refine (clone_any A c l w.drew Hr.out hlen).mono ?_; rintro e w1 ⟨v1, rfl, hs1, hk1⟩; have c1' := (Hx.out.kp hk1 (fun h => h)).cell 1; simp at c1'; have Hs1 := hHd hs1; have Hk1 := hHd hk1; clear hs1 hk1)
 all_goals go_wp2
 all_goals go_ret2
 all_goals exact ⟨_, rfl, Hid.out (by assumption), (Kp.refl _ w).drew.trans (Hid.out (by assumption))⟩
theorem bytes_nil (w : World) :
  Calls Tryz.prog 114 #[.pointer none] w fun e w' => e = .returned (.tuple #[.slice none 0 0, .int .i64 1]) /\ w = w' := by
 go_enter Tryz.func114, Tryz.ntmps114
 go_wp2_with fail
 go_ret2
 exact ⟨rfl, rfl⟩
theorem bytes_any (h : Pk F w p l err) (hlen : l.length <= 140737488355328) :
  Calls Tryz.prog 114 #[p] w fun e w' => ∃ A c, e = .returned (.tuple #[.slice A l.length c, .int .i64 err]) /\ l.length <= c /\ c <= maxLen /\ Rd w' A l /\ (∀ a, A = some a -> w.heap.size <= a.block) /\ Kp (fun _ => False) w w' := by
 obtain ⟨h0, ⟨rfl, rfl⟩ | ⟨b, rfl, h⟩⟩ := h
 ·obtain rfl := h0 (by decide)
  refine (bytes_nil w).mono ?_
  rintro e w' ⟨rfl, rfl⟩
  exact ⟨none, 0, rfl, Nat.le_refl _, by simp [maxLen], Rd.nil _ _, (fun _ h => by cases h), Kp.refl _ _⟩
 ·refine (bytes_ptr h hlen).mono ?_
  rintro e w' ⟨v, rfl, ⟨A, c, rfl, h1, h2, h3, h4⟩, hk⟩
  exact ⟨A, c, rfl, h1, h2, h3, h4, hk⟩
theorem of_any (G : Nat -> Prop) (w : World) (hG : ∀ k, w.heap.size <= k -> G k) (A : Option Addr) (n c : Nat) (l : List UInt8) (hn : l.length = n) (hr : Rd w A l) (hlen : l.length <= 140737488355328) :
  Calls Tryz.prog 89 #[.slice A n c] w fun e w' => ∃ b, e = .returned (.pointer (some ⟨b, 0, none⟩)) /\ w.heap.size <= b /\ Opn G w' b l none /\ Kp (fun _ => False) w w' := by
 subst hn
 have Hr := hHd hr
 have HG := hHd hG
 clear hr hG
 go_enter Tryz.func89, Tryz.ntmps89
 go_wp2_with fail
 refine (clone_any A c l w Hr.out hlen).mono ?_
 rintro e w1 ⟨v, rfl, ⟨A1, c1, rfl, h1, h2, h3, h4⟩, hk⟩
 have Hd := hHd (And.intro h3 h4)
 have Hk := hHd hk
 clear h3 h4 hk
 go_wp2_with fail
 go_ret
 have hs := Hk.out.size
 refine ⟨_, rfl, hs, ⟨HG.out _ hs, A1, c1, .nilFunc, ?_, h1, h2, Hd.out.1.alloc _, fun _ a ha => HG.out _ (Hd.out.2 a ha), rfl⟩, Hk.out.alloc _⟩
 exact Box.new w1 _ _
end
def Tbl (w : World) : Prop := ∀ i, i < 16 → w.cell? ⟨1, i, none⟩ = some (.int .u32 (tab i))
theorem Tbl.kp {w w' : World} {S : Nat → Prop} (h : Tbl w) (hk : Kp S w w') (hn : ¬ S 1) : Tbl w' := fun i hi =>
  (hk.cell (p := ⟨1, i, none⟩) (World.block_lt_of_cell? w ⟨1, i, none⟩ (h i hi)) hn).trans (h i hi)
theorem xor_int (a b : Nat) (ha : a < 4294967296) (hb : b < 4294967296) : bits .xor .u32 (a : Int) (b : Int) = ((a ^^^ b : Nat) : Int) := u32_xor_nat a b ha hb
theorem Rd.at' {w : World} {A : Option Addr} {l : List UInt8} {k : Nat} (h : Rd w A l) (hk : k < l.length) : ∃ b o, A = some ⟨b, o, none⟩ ∧ w.cell? ⟨b, o + k, none⟩ = some (.int .u8 l[k].toNat) := by
  rcases h with rfl | ⟨b, o, rfl, hc⟩
  · simp at hk
  · exact ⟨b, o, rfl, hc k l[k] (List.getElem?_eq_getElem hk)⟩
theorem divide_any (r : Nat) (x : UInt8) (w : World) (hr : r < 4294967296) (ht : Tbl w) :
    Calls Tryz.prog 181 #[.int .u32 r, .int .u8 x.toNat] w fun e w' => e = .returned (.int .u32 ((stN 8 (r ^^^ x.toNat) : Nat) : Int)) ∧ w = w' := by
  have hx := x.toNat_lt
  have H := Lib.hid ht
  clear ht
  have hm0 : r ^^^ x.toNat < 4294967296 := Nat.xor_lt_two_pow (n := 32) hr (Nat.lt_trans hx (by decide))
  have hq := xor_int r x.toNat hr (Nat.lt_trans hx (by decide))
  generalize r ^^^ x.toNat = m0 at *
  go_enter Tryz.func181, Tryz.ntmps181
  go_wp2_with fail
  clear hq
  go_loop [0, 9] (fun s i => ∃ k : Nat, k ≤ 2 ∧ i = .int .i64 k ∧ s = .int .u32 ((stN (4 * k) m0 : Nat) : Int)) (fun _ i => 2 - (intOf i).toNat)
  case atStart => exact ⟨0, by omega, rfl, rfl⟩
  case round =>
    obtain ⟨k, hk, rfl, rfl⟩ := hrel
    have hm := stN_lt (4 * k) m0 hm0
    have hs : stN (4 * (k + 1)) m0 = stN (4 * k) m0 / 16 ^^^ tab (stN (4 * k) m0 % 16) := by
      rw [show 4 * (k + 1) = 4 * k + 4 by omega, stN_add, stN_four]
    have hlast : 2 ≤ k → stN (4 * k) m0 = stN 8 m0 := by intro h; obtain rfl : k = 2 := by omega
                                                         rfl
    generalize stN (4 * k) m0 = m at *
    have Hs := Lib.hid hs
    have Hl := Lib.hid hlast
    clear hs hlast
    by_cases hlt : k < 2
    · have hc := H.out (m % 16) (Nat.mod_lt _ (by decide))
      have ha : bits .and .u32 (m : Int) 15 = ((m % 16 : Nat) : Int) := by
        have := u32_and_nat m 15 hm (by decide)
        rw [show (15 : Nat) = 2 ^ 4 - 1 by decide, Nat.and_two_pow_sub_one_eq_mod] at this
        exact this
      go_wp2_with fail
      go_round
      case rel =>
        refine ⟨k + 1, by omega, by go_num, ?_⟩
        have hx2 := xor_int (m / 16) (tab (m % 16)) (by omega) (stN_lt 4 _ (by omega))
        rw [Int.natCast_ediv] at hx2
        rw [Hs.out, ← hx2]
        rfl
      case measure => simp [intOf]; omega
    · have hl := Hl.out (by omega)
      subst hl
      go_wp2_with fail
      go_ret
      exact ⟨rfl, rfl⟩
theorem rest_take (s : Nat) (l : List UInt8) (k : Nat) (h : k < l.length) : rest s (l.take (k + 1)) = stN 8 (rest s (l.take k) ^^^ l[k].toNat) := by
  rw [List.take_succ_eq_append_getElem h, rest_snoc]
theorem sum_any' (A : Option Addr) (l : List UInt8) (c : Nat) (w : World) (hm : l.length ≤ maxLen) (hr : Rd w A l) (ht : Tbl w) :
    Calls Tryz.prog 165 #[.slice A l.length c] w fun e w' => e = .returned (.int .u32 ((crcN l : Nat) : Int)) ∧ w = w' := by
  unfold maxLen at hm
  have Hr := Lib.hid hr
  have Ht := Lib.hid ht
  clear hr ht
  go_enter Tryz.func165, Tryz.ntmps165
  go_wp2_with fail
  go_loop [3, 8] (fun s i => ∃ k : Nat, k ≤ l.length ∧ i = .int .i64 k ∧ s = .int .u32 ((rest 4294967295 (l.take k) : Nat) : Int)) (fun _ i => l.length - (intOf i).toNat)
  case atStart => exact ⟨0, by omega, rfl, rfl⟩
  case round =>
    obtain ⟨k, hk, rfl, rfl⟩ := hrel
    have hrl := rest_lt 4294967295 (l.take k) (by decide)
    by_cases hlt : k < l.length
    · have hn := Lib.hid (rest_take 4294967295 l k hlt)
      obtain ⟨b, o, rfl, hc⟩ := Hr.out.at' hlt
      generalize l[k] = x at *
      generalize rest 4294967295 (l.take k) = s at *
      go_wp2_with fail
      refine (divide_any s x w hrl Ht.out).mono ?_
      rintro e w' ⟨rfl, rfl⟩
      go_wp2_with fail
      go_round
      case rel => exact ⟨k + 1, by omega, by go_num, by rw [hn.out]⟩
      case measure => simp [intOf]; omega
    · have hk' : l.take k = l := List.take_of_length_le (by omega)
      rw [hk'] at hrl ⊢
      have hf : bits .xor .u32 IntKind.u32.max ((rest 4294967295 l : Nat) : Int) = ((crcN l : Nat) : Int) := by
        rw [crcN, xor_ones _ hrl]
        exact xor_int 4294967295 _ (by decide) hrl
      have Hf := Lib.hid hf
      clear hk' hf
      go_wp2_with fail
      go_ret
      exact ⟨by rw [Hf.out]; rfl, rfl⟩
end Go.Proofs.YtepaeliamhjgiaaGreatDoor
