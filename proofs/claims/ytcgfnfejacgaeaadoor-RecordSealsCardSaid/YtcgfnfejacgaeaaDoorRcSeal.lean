/- What record.Seal answers. Condition: the table of half bytes reads as the program's text lays it. -/
import Derived.Test.YtcgfnfejacgaeaaDoorRcSec
namespace Go.Proofs.YtcgfnfejacgaeaaDoor
open Go.RowKit

theorem sum_m (A : Option Addr) (l : List UInt8) (n c : Nat) (w : World) (hn : l.length = n) (hm : n ≤ maxLen) (hr : Rd w A l) (ht : Tbl w) :
    Calls Tryd.prog 13 #[.slice A n c] w fun e w' => e = .returned (.int .u32 ((crcN l : Nat) : Int)) ∧ w = w' := by
  subst hn
  exact sum_any' A l c w hm hr ht
def SealEnd (h : Hd) (w : World) (e : Ending) (w' : World) : Prop := ∃ A c, e = .returned (.tuple #[.slice A 512 c, .int .i64 0]) ∧ 512 ≤ c ∧ c ≤ maxLen ∧ Rd w' A (secR h) ∧ (∀ a, A = some a → w.heap.size ≤ a.block) ∧ Kp (fun _ => False) w w'
set_option maxRecDepth 100000 in
set_option maxHeartbeats 1000000 in
theorem seal_fine (b n c : Nat) (A : Option Addr) (l : List UInt8) (w : World) (hb : b < 65536) (hn : l.length = n) (hl : n ≤ 2048) (hr : Rd w A l) (ht : Tbl w) :
    Calls Tryd.prog 6 #[.int .i64 b, .slice A n c] w (SealEnd ⟨b, n, crcN l⟩ w) := by
  have HR := Lib.hid hr
  have HT := Lib.hid ht
  have HN := Lib.hid hn
  have d1 : decide ((b : Int) < 0) = false := by simp
  have d2 : decide ((65535 : Int) < (b : Int)) = false := by simp; omega
  have hmay := fun v => mayUsed_any n v
  rw [show decide (n ≤ 2048) = true by simpa using hl] at hmay
  have HMAY := Lib.hid hmay
  have HS := Lib.hid (sector_any ⟨b, n, crcN l⟩ w ⟨hb, by show n < 65536; omega, crcN_lt _⟩ ht)
  have HSUM := Lib.hid (sum_m A l n c w hn (by unfold maxLen; omega) hr ht)
  obtain ⟨cr, hcr⟩ : ∃ cr, cr = crcN l := ⟨_, rfl⟩
  have hcs : hcs ⟨b, n, cr⟩ = [.int .i64 b, .int .i64 n, .int .u32 cr] := rfl
  rw [← hcr] at HS HSUM ⊢
  rw [hcs] at HS
  clear hr ht hn hmay hcr hcs
  go_enter Tryd.func6, Tryd.ntmps6
  go_wp2_with fail
  refine (HMAY.out w).mono ?_
  rintro e w1 ⟨rfl, rfl⟩
  go_wp2_with fail
  refine HSUM.out.mono ?_
  rintro e w1 ⟨rfl, rfl⟩
  go_wp2_with fail
  refine HS.out.mono ?_
  rintro e w2 ⟨A2, c2, rfl, h1, h2, h3, h4, h5⟩
  have H1 := Lib.hid h1
  have H2 := Lib.hid h2
  have H3 := Lib.hid h3
  have H4 := Lib.hid h4
  have H5 := Lib.hid h5
  clear h1 h2 h3 h4 h5
  go_wp2_with fail
  go_ret2
  exact ⟨A2, c2, rfl, H1.out, H2.out, H3.out, H4.out, H5.out⟩
theorem seal_ok (b n c : Nat) (A : Option Addr) (l : List UInt8) (w : World) (hb : b < 65536) (hn : l.length = n) (hl : n ≤ 2048) (_ : n ≤ c) (_ : c ≤ maxLen) (hr : Rd w A l) (ht : Tbl w) :
    Calls Tryd.prog 6 #[.int .i64 b, .slice A n c] w (SealEnd ⟨b, n, crcN l⟩ w) := seal_fine b n c A l w hb hn hl hr ht
set_option maxRecDepth 100000 in
set_option maxHeartbeats 1000000 in
theorem seal_no (b : Int) (n c : Nat) (A : Option Addr) (w : World) (h : b < 0 ∨ 65535 < b ∨ 2048 < n) :
    Calls Tryd.prog 6 #[.int .i64 b, .slice A n c] w fun e w' => e = .returned (.tuple #[.slice none 0 0, .int .i64 2]) ∧ w = w' := by
  by_cases h1 : b < 0
  · clear h
    go_enter Tryd.func6, Tryd.ntmps6
    go_wp2_with fail
    go_ret2
    exact ⟨rfl, rfl⟩
  · by_cases h2 : 65535 < b
    · clear h
      go_enter Tryd.func6, Tryd.ntmps6
      go_wp2_with fail
      go_ret2
      exact ⟨rfl, rfl⟩
    · have h3 : 2048 < n := by omega
      have hmay := mayUsed_any n w
      rw [show decide (n ≤ 2048) = false by simp; omega] at hmay
      have HMAY := Lib.hid hmay
      clear hmay h
      go_enter Tryd.func6, Tryd.ntmps6
      go_wp2_with fail
      refine HMAY.out.mono ?_
      rintro e w1 ⟨rfl, rfl⟩
      go_wp2_with fail
      go_ret2
      exact ⟨rfl, rfl⟩
end Go.Proofs.YtcgfnfejacgaeaaDoor
