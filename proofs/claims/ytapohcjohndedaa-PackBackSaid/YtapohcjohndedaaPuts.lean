/- All things into one packer. At most 60 things, texts of at most 400 bytes. -/
import Derived.Test.YtapohcjohndedaaRef
namespace Go.Proofs.Ytapohcjohndedaa
open Go.RowKit

theorem alloc_le {w : World} {o : Obj} {q : Nat} (h : (w.alloc o).heap.size ≤ q) : w.heap.size ≤ q := by simp at h; omega
theorem room {n m : Nat} (h : n ≤ 60 * 401) (hm : m ≤ 1000) : n + m ≤ 140737488355328 := by omega
theorem le401 {a k n : Nat} (h : a ≤ k * 401) (hk : k < n) (hn : n ≤ 60) : a ≤ 60 * 401 := Nat.le_trans h (Nat.mul_le_mul_right 401 (by omega))
theorem wdB_cases {wd : Int} (h : wdB wd = true) : wd = 1 ∨ wd = 2 ∨ wd = 4 ∨ wd = 8 := by
  simp [wdB] at h
  omega
theorem wdB_not {wd : Int} (h : wdB wd = false) : ∀ n, fitB wd n = false := fun n => by simp [fitB, h]

section
variable {F : Nat → Prop} {w : World} {p : Value} {l : List UInt8} {err : Int}

theorem put_any (h : Pk F w p l err) (hF : ∀ k, w.heap.size ≤ k → F k) (wd : Int) (n : Nat) (hn : n < 18446744073709551616) (hlen : l.length + 8 ≤ 140737488355328) :
    Calls Try.prog 12 #[p, .int .i64 wd, .int .u64 n] w fun e w' => e = .returned p ∧
      Pk F w' p (if fitB wd n then putS l err (beN wd.toNat n) else []) (if fitB wd n then err else errS err 6) ∧ Kp F w w' := by
  rcases hw : wdB wd with _ | _
  · rw [wdB_not hw n]
    exact put_odd h wd n hw
  · rcases wdB_cases hw with rfl | rfl | rfl | rfl
    · rcases Nat.lt_or_ge n 256 with h1 | h1
      · have e : fitB 1 n = true := by simp [fitB, wdB]; omega
        simp only [e, if_true]
        exact put_fine1 h hF n h1 (by omega)
      · have e : fitB 1 n = false := by simp [fitB, wdB]; omega
        simp only [e]
        exact put_big1 h n h1
    · rcases Nat.lt_or_ge n 65536 with h1 | h1
      · have e : fitB 2 n = true := by simp [fitB, wdB]; omega
        simp only [e, if_true]
        exact put_fine2 h hF n h1 (by omega)
      · have e : fitB 2 n = false := by simp [fitB, wdB]; omega
        simp only [e]
        exact put_big2 h n h1
    · rcases Nat.lt_or_ge n 4294967296 with h1 | h1
      · have e : fitB 4 n = true := by simp [fitB, wdB]; omega
        simp only [e, if_true]
        exact put_fine4 h hF n h1 (by omega)
      · have e : fitB 4 n = false := by simp [fitB, wdB]; omega
        simp only [e]
        exact put_big4 h n h1
    · have e : fitB 8 n = true := by simp [fitB, wdB]; omega
      simp only [e, if_true]
      exact put_fine8 h hF n hn hlen

theorem name_any (h : Pk F w p l err) (hF : ∀ k, w.heap.size ≤ k → F k) (s : ByteArray) (hs : s.size ≤ 400) (hlen : l.length + 401 ≤ 140737488355328) :
    Calls Try.prog 15 #[p, .string s] w fun e w' => e = .returned p ∧
      Pk F w' p (if s.size < 256 then putS l err (UInt8.ofNat s.size :: tb s) else []) (if s.size < 256 then err else errS err 6) ∧ Kp F w w' := by
  by_cases h1 : s.size < 256
  · rw [if_pos h1, if_pos h1]
    exact name_fine h hF s (by omega) (by omega)
  · rw [if_neg h1, if_neg h1]
    exact name_long h s (by omega)
end

/-- The four cells of thing k, in a later world. -/
theorem Its.at_ {w : World} {B : Nat} {A : Option Addr} {l : List It} (h : Its w B A l) {k : Nat} (hk : k < l.length) :
    ∃ b o, A = some ⟨b, o, none⟩ ∧ b < B ∧ w.cell? ⟨b, o + k * 4, none⟩ = some (.int .u8 l[k].d) ∧ w.cell? ⟨b, o + k * 4 + 1, none⟩ = some (.int .i64 l[k].wd) ∧ w.cell? ⟨b, o + k * 4 + 2, none⟩ = some (.int .u64 l[k].n) ∧ w.cell? ⟨b, o + k * 4 + 3, none⟩ = some (.string l[k].s) := by
  rcases h.2 with h0 | ⟨b, o, e, hb, hc⟩
  · subst h0; simp at hk
  · have hx := List.getElem?_eq_getElem hk
    exact ⟨b, o, e, hb, hc k _ hx 0 _ rfl, hc k _ hx 1 _ rfl, hc k _ hx 2 _ rfl, hc k _ hx 3 _ rfl⟩

set_option maxHeartbeats 1000000 in
theorem puts_any {B : Nat} {A : Option Addr} {l : List It} {w : World} (h : Its w B A l) (hB : B ≤ w.heap.size) (hg : greatB l = false) (c : Nat) :
    Calls Try.prog 10 #[.slice A l.length c] w fun e w' => ∃ p, e = .returned p ∧ Pk (fun k => w.heap.size ≤ k) w' p (putAll l).1 (putAll l).2 ∧ Kp (fun k => w.heap.size ≤ k) w w' := by
  obtain ⟨hl60, hl400⟩ := not_great hg
  obtain ⟨C, hC⟩ : ∃ C, C = w.heap.size := ⟨_, rfl⟩
  rw [← hC]
  have hle := putAll_le l hl400
  have H := Lib.hid h
  have HB := Lib.hid hB
  have HC := Lib.hid hC
  have Hle := Lib.hid hle
  have H4 := Lib.hid hl400
  clear h hB hg hC hle hl400
  go_enter Try.func10, Try.ntmps10
  go_wp2_with fail
  refine (new_any (fun k => C ≤ k) w (by rw [HC.out]; exact Nat.le_refl _)).mono ?_
  rintro e w1 ⟨rfl, hp, hk⟩
  obtain ⟨p, hpp⟩ : ∃ p, p = Value.pointer (some ⟨w.heap.size, 0, none⟩) := ⟨_, rfl⟩
  have h1 : Pk (fun k => C ≤ k) w1 p [] 0 := ⟨fun h => absurd rfl h, .inr ⟨_, hpp, hp⟩⟩
  have k1 : Kp (fun k => C ≤ k) w w1 := hk.mono (fun _ _ h => h.elim)
  rw [← hpp]
  have H1 := Lib.hid h1
  have K1 := Lib.hid k1
  clear hp hk h1 k1 hpp
  go_wp2_with fail
  go_loopw [4] (fun i wr => ∃ k : Nat, k ≤ l.length ∧ i = .int .i64 k ∧ Pk (fun k => C ≤ k) wr p (putAll (l.take k)).1 (putAll (l.take k)).2 ∧ Kp (fun k => C ≤ k) w wr) (fun i _ => l.length - (intOf i).toNat)
  case atStart => exact ⟨0, Nat.zero_le _, rfl, H1.out, K1.out⟩
  case round =>
    obtain ⟨k, hk, rfl, hpk, hkp⟩ := hrel
    have Hpk := Lib.hid hpk
    have Hkp := Lib.hid hkp
    clear hpk hkp
    by_cases hlt : k < l.length
    · have hit := H.out.keep (w' := wr) (fun q hq => Hkp.out.block q (Nat.lt_of_lt_of_le hq HB.out) (by rw [HC.out]; have := HB.out; omega))
      obtain ⟨b, o, rfl, hbB, c0, c1, c2, c3⟩ := hit.at_ hlt
      have hok := H.out.1 _ (List.getElem_mem hlt)
      have hst := putAll_take l k hlt
      have hs4 := H4.out _ (List.getElem_mem hlt)
      have hlen : (putAll (l.take k)).1.length ≤ k * 401 := Hle.out k hk
      generalize l[k] = x at *
      obtain ⟨d, wd, n, s⟩ := x
      simp only at c0 c1 c2 c3 hs4
      obtain ⟨hd0, hd1, hw0, hw1, hn1, hs1⟩ := hok
      simp only at hd0 hd1 hw0 hw1 hn1 hs1
      have Hst := Lib.hid hst
      have hwr : w.heap.size ≤ wr.heap.size := Hkp.out.size
      have hbw : b < w.heap.size := Nat.lt_of_lt_of_le hbB HB.out
      have HCw : Hid (C ≤ wr.heap.size) := by show C ≤ wr.heap.size; rw [HC.out]; exact hwr
      generalize putAll (l.take k) = st at *
      clear hst hit
      have Hs1 := Lib.hid hs1
      have Hn1 := Lib.hid hn1
      have hlen2 := le401 hlen hlt hl60
      have Hlen := Lib.hid hlen2
      clear hs1 hn1 hlen hlen2
      by_cases e0 : d = 0
      · subst e0
        go_wp2_with fail
        refine (put_any (Hpk.out.still ((Kp.refl _ wr).alloc _)) (fun q hq => Nat.le_trans HCw.out (alloc_le hq)) wd n Hn1.out (room Hlen.out (by decide))).mono ?_
        rintro e w2 ⟨rfl, h2, k2⟩
        have H2 := Lib.hid h2
        have K2 := Lib.hid ((Hkp.out.alloc _).trans k2)
        clear h2 k2
        go_wp2_with fail
        go_roundw
        case rel =>
          refine ⟨k + 1, by omega, by go_num, ?_, K2.out⟩
          rw [Hst.out]
          have e : put1 st ⟨0, wd, n, s⟩ = (if fitB wd n then putS st.1 st.2 (beN wd.toNat n) else [], if fitB wd n then st.2 else errS st.2 6) := by
            unfold put1 enc1
            rcases hf : fitB wd n with _ | _ <;> simp
          rw [e]
          exact H2.out
        case measure => simp [intOf]; omega
      · by_cases e1 : d = 1
        · subst e1
          go_wp2_with fail
          refine (hash_item ⟨1, wd, n, s⟩ _).mono ?_
          rintro e w2 ⟨rfl, k2⟩
          have K2 := Lib.hid ((Hkp.out.alloc (.cells #[.int .u8 1, .int .i64 wd, .int .u64 n, .string s] 27)).trans (k2.mono (fun _ _ h => h.elim)))
          have P2 := Lib.hid ((Hpk.out.still ((Kp.refl _ wr).alloc (.cells #[.int .u8 1, .int .i64 wd, .int .u64 n, .string s] 27))).still k2)
          have HC2 : Hid (C ≤ w2.heap.size) := Nat.le_trans HCw.out (alloc_le k2.size)
          clear k2
          go_wp2_with fail
          refine (hash_any P2.out (fun q hq => Nat.le_trans HC2.out hq) (hb s) (hb_length s) (room Hlen.out (by decide))).mono ?_
          rintro e w3 ⟨rfl, h3, k3⟩
          have H3 := Lib.hid h3
          have K3 := Lib.hid (K2.out.trans k3)
          clear h3 k3 K2 P2
          go_wp2_with fail
          go_roundw
          case rel =>
            refine ⟨k + 1, by omega, by go_num, ?_, K3.out⟩
            rw [Hst.out]
            exact H3.out
          case measure => simp [intOf]; omega
        · by_cases e2 : d = 2
          · subst e2
            go_wp2_with fail
            refine (text_any (Hpk.out.still ((Kp.refl _ wr).alloc _)) (fun q hq => Nat.le_trans HCw.out (alloc_le hq)) s (room Hlen.out (Nat.le_trans hs4 (by decide)))).mono ?_
            rintro e w2 ⟨rfl, h2, k2⟩
            have H2 := Lib.hid h2
            have K2 := Lib.hid ((Hkp.out.alloc _).trans k2)
            clear h2 k2
            go_wp2_with fail
            go_roundw
            case rel =>
              refine ⟨k + 1, by omega, by go_num, ?_, K2.out⟩
              rw [Hst.out]
              exact H2.out
            case measure => simp [intOf]; omega
          · have b0 : (d == 0) = false := by simpa using e0
            have b1 : (d == 1) = false := by simpa using e1
            have b2 : (d == 2) = false := by simpa using e2
            go_wp2_with fail
            refine (name_any (Hpk.out.still ((Kp.refl _ wr).alloc _)) (fun q hq => Nat.le_trans HCw.out (alloc_le hq)) s hs4 (room Hlen.out (by decide))).mono ?_
            rintro e w2 ⟨rfl, h2, k2⟩
            have H2 := Lib.hid h2
            have K2 := Lib.hid ((Hkp.out.alloc _).trans k2)
            clear h2 k2
            go_wp2_with fail
            go_roundw
            case rel =>
              refine ⟨k + 1, by omega, by go_num, ?_, K2.out⟩
              rw [Hst.out]
              have e : put1 st ⟨d, wd, n, s⟩ = (if s.size < 256 then putS st.1 st.2 (UInt8.ofNat s.size :: tb s) else [], if s.size < 256 then st.2 else errS st.2 6) := by
                unfold put1 enc1
                simp only [e0, e1, e2, if_false]
                by_cases h256 : s.size < 256 <;> simp [h256]
              rw [e]
              exact H2.out
            case measure => simp [intOf]; omega
    · obtain rfl : k = l.length := by omega
      go_wp2_with fail
      go_ret
      refine ⟨p, rfl, ?_, Hkp.out⟩
      have := Hpk.out
      rwa [List.take_length] at this

end Go.Proofs.Ytapohcjohndedaa
