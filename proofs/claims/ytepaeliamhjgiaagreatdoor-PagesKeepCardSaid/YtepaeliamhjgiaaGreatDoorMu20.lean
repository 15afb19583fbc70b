/- The law of pages, part 20 of 55: WlOpen WlCommit. -/
import Derived.Test.YtepaeliamhjgiaaGreatDoorMu1
import Derived.Test.YtepaeliamhjgiaaGreatDoorMu5
import Derived.Test.YtepaeliamhjgiaaGreatDoorMu19
set_option maxHeartbeats 16000000
set_option maxRecDepth 100000
namespace Go.Proofs.YtepaeliamhjgiaaGreatDoor
open Go.RowKit Go.Maps
def OpenP (w : World) (b : Nat) (x : Option (Lm × List (List UInt8)) × Int) (e : Ending) (w' : World) : Prop := match x with
 |(none, c) => e = .returned (.tuple #[.pointer none, .slice none 0 0, .int .i64 c]) /\ Kp (fun _ => False) w w'
 |(some (l, u), _) => ∃ g v, e = .returned (.tuple #[.pointer (some ⟨g, 0, none⟩), v, .int .i64 0]) /\ Box w' g 130 (lcs b l) /\ w'.ownsRow w.heap.size 9 1 v u.length (strs u) /\ w.heap.size <= g /\ Kp (fun _ => False) w w'
theorem own_base' {w : World} {B B' : Nat} {e : TypeId} {size n : Nat} {v : Value} {xs : List Value} (h : w.ownsRow B e size v n xs) (hB : B' <= B) : w.ownsRow B' e size v n xs := by
 refine ⟨h.1, ?_⟩
 rcases h.2 with h2 | ⟨g, cap, cur, rfl, hb, r⟩
 ·exact .inl h2
 ·exact .inr ⟨g, cap, cur, rfl, Nat.le_trans hB hb, r⟩
section
variable {w : World} {b : Nat} {d : Dm} {F : Nat -> Prop}
theorem open_any (hD : Dsk F w b d) (ht : Tbl w) (hfb : ∀ h a, d.heads = some (h, a) -> h.f + 513 < 18446744073709551616) :
  Calls Tryz.prog 41 #[.pointer (some ⟨b, 0, none⟩)] w (OpenP w b d.openS) := by
 have DD := hHd hD
 have HT := hHd ht
 have hfew : d.on.length <= 4096 := by obtain ⟨_, _, _, h1, _⟩ := hD; exact h1.ok.few
 have hfm : d.openS = if !d.power then (none, (4 : Int)) else match d.heads with
   |none => (none, (12 : Int))
   |some (h, a) => if 2 + h.n <= d.on.length then (some ((⟨h, a, nextF d.nowAt h.n h.f, 0, false⟩ : Lm), textsF d.nowAt h.n h.f), (0 : Int)) else (none, (12 : Int)) := rfl
 have hcv : countV d = if d.power then (match d.heads with
   |some (h, a) => .tuple #[.agg (hcs h a).toArray, .bool true, .int .i64 0]
   |none => .tuple #[.agg #[.int .u64 0, .int .u64 0, .int .i64 0, .string ⟨#[]⟩, .int .i64 0], .bool false, .int .i64 0])
  else .tuple #[.agg #[.int .u64 0, .int .u64 0, .int .i64 0, .string ⟨#[]⟩, .int .i64 0], .bool false, .int .i64 4] := rfl
 clear hD ht
 rcases hpw : d.power with _ | _
 ·have HX := hHd (show d.openS = (none, 4) by rw [hfm, hpw]; rfl)
  have HCV := hHd (show countV d = .tuple #[.agg #[.int .u64 0, .int .u64 0, .int .i64 0, .string ⟨#[]⟩, .int .i64 0], .bool false, .int .i64 4] by rw [hcv, hpw]; rfl)
  clear hfm hcv hpw hfb
  go_enter Tryz.func41, Tryz.ntmps41
  go_wp2_with fail
  refine (counting_any DD.out HT.out).mono ?_
  rintro e w1 ⟨rfl, hk⟩
  rw [HCV.out]
  have B2 := hHd (Box.new w1 122 #[.int .u64 0, .int .u64 0, .int .i64 0, .string ⟨#[]⟩, .int .i64 0])
  have K2 := hHd (hk.alloc (.cells #[.int .u64 0, .int .u64 0, .int .i64 0, .string ⟨#[]⟩, .int .i64 0] 122))
  have hg5 := hk.size
  clear hk
  go_upto_region 4 with fail
  generalize w1.alloc (.cells #[.int .u64 0, .int .u64 0, .int .i64 0, .string ⟨#[]⟩, .int .i64 0] 122) = w2 at *
  generalize w1.heap.size = g5 at *
  have D2 := hHd (DD.out.still K2.out)
  go_wp2_with fail
  refine bodyPost_ret (v := .tuple #[.pointer none, .slice none 0 0, .int .i64 4]) (by simp [results, Tryz.results41, go_sem]) rfl ?_
  rw [HX.out]
  exact ⟨rfl, K2.out⟩
 rw [hpw, Bool.not_true, if_neg (by decide)] at hfm
 rw [hpw, if_pos rfl] at hcv
 rcases hh : d.heads with _ | ⟨h, a⟩
 ·rw [hh] at hfm hcv
  have HX := hHd hfm
  have HCV := hHd hcv
  clear hfm hcv hpw hfb hh
  go_enter Tryz.func41, Tryz.ntmps41
  go_wp2_with fail
  refine (counting_any DD.out HT.out).mono ?_
  rintro e w1 ⟨rfl, hk⟩
  rw [HCV.out]
  have B2 := hHd (Box.new w1 122 #[.int .u64 0, .int .u64 0, .int .i64 0, .string ⟨#[]⟩, .int .i64 0])
  have K2 := hHd (hk.alloc (.cells #[.int .u64 0, .int .u64 0, .int .i64 0, .string ⟨#[]⟩, .int .i64 0] 122))
  have hg5 := hk.size
  clear hk
  go_upto_region 4 with fail
  generalize w1.alloc (.cells #[.int .u64 0, .int .u64 0, .int .i64 0, .string ⟨#[]⟩, .int .i64 0] 122) = w2 at *
  generalize w1.heap.size = g5 at *
  have D2 := hHd (DD.out.still K2.out)
  go_upto_region 6 with fail
  refine wp_region_held_drew (S := fun v => v.cell? ⟨g5, 0, none⟩ = some (.int .u64 0) /\ v.cell? ⟨g5, 1, none⟩ = some (.int .u64 0) /\ v.cell? ⟨g5, 2, none⟩ = some (.int .i64 0) /\ v.cell? ⟨g5, 3, none⟩ = some (.string ⟨#[]⟩) /\ v.cell? ⟨g5, 4, none⟩ = some (.int .i64 0)) (by kernel_rfl) (⟨(B2.out.cell 0), (B2.out.cell 1), (B2.out.cell 2), (B2.out.cell 3), (B2.out.cell 4)⟩) (fun hHeld => ?_)
  refine tk 0 (h := ?_)
  refine tk 1 (h := ?_)
  refine tk 2 (h := ?_)
  refine sk 3 (h := ?_)
  refine sk 4 (h := ?_)
  refine sk 5 (h := ?_)
  refine sk 6 (h := ?_)
  refine sk 7 (h := ?_)
  refine sk 8 (h := ?_)
  refine tk 9 (h := ?_)
  refine wpAnyH_done (by kernel_rfl) ?_ _
  go_wp2_with fail
  refine bodyPost_ret (v := .tuple #[.pointer none, .slice none 0 0, .int .i64 12]) (by simp [results, Tryz.results41, go_sem]) rfl ?_
  rw [HX.out]
  exact ⟨rfl, K2.out.drew⟩
 ·have hok : h.ok := by
   rcases countS_at hh with ⟨_, e⟩ | ⟨_, e⟩ <;> exact (headS_some e).2.2.1
  have HOK := hHd hok
  have HFB := hHd (hfb h a hh)
  have hn0 : 0 < h.n := by have := hok.lo; omega
  have hn5 : h.n <= 512 := hok.hi
  rw [hh] at hfm hcv
  simp only [hcs] at hcv
  have HCV := hHd hcv
  have HPW := hHd hpw
  by_cases hlen : 2 + h.n <= d.on.length
  ·obtain ⟨z, hz⟩ : ∃ z : Int, 2 + (h.n : Int) = z := ⟨_, rfl⟩
   have hd1 : decide ((d.on.length : Int) < z) = false := by simp; omega
   have hwn : IntKind.i64.wrap (2 + (h.n : Int)) = z := by rw [IntWalk.i64_in _ (by omega)]; exact hz
   have HX := hHd (show d.openS = (some ((⟨h, a, nextF d.nowAt h.n h.f, 0, false⟩ : Lm), textsF d.nowAt h.n h.f), 0) by rw [hfm]; dsimp only; rw [if_pos hlen])
   clear hfm hcv hpw hfb hh hok hz
   go_enter Tryz.func41, Tryz.ntmps41
   go_wp2_with fail
   refine (counting_any DD.out HT.out).mono ?_
   rintro e w1 ⟨rfl, hk⟩
   rw [HCV.out]
   have B2 := hHd (Box.new w1 122 #[.int .u64 h.g, .int .u64 h.f, .int .i64 h.n, .string ⟨h.note.toArray⟩, .int .i64 a])
   have K2 := hHd (hk.alloc (.cells #[.int .u64 h.g, .int .u64 h.f, .int .i64 h.n, .string ⟨h.note.toArray⟩, .int .i64 a] 122))
   have hg5 := hk.size
   clear hk
   go_upto_region 4 with fail
   generalize w1.alloc (.cells #[.int .u64 h.g, .int .u64 h.f, .int .i64 h.n, .string ⟨h.note.toArray⟩, .int .i64 a] 122) = w2 at *
   generalize w1.heap.size = g5 at *
   have D2 := hHd (DD.out.still K2.out)
   go_upto_region 6 with fail
   refine wp_region_held_drew (S := fun v => v.cell? ⟨g5, 0, none⟩ = some (.int .u64 h.g) /\ v.cell? ⟨g5, 1, none⟩ = some (.int .u64 h.f) /\ v.cell? ⟨g5, 2, none⟩ = some (.int .i64 h.n) /\ v.cell? ⟨g5, 3, none⟩ = some (.string ⟨h.note.toArray⟩) /\ v.cell? ⟨g5, 4, none⟩ = some (.int .i64 a)) (by kernel_rfl) (⟨(B2.out.cell 0), (B2.out.cell 1), (B2.out.cell 2), (B2.out.cell 3), (B2.out.cell 4)⟩) (fun hHeld => ?_)
   refine tk 0 (h := ?_)
   refine tk 1 (h := ?_)
   refine tk 2 (h := ?_)
   refine tk 3 (h := ?_)
   refine tk 4 (h := ?_)
   refine tk 5 (h := ?_)
   refine tk 6 (h := ?_)
   refine rd 7 (h := fun K hK => ?_)
   go_simp
   refine (len_any (D2.out.still (Kp.refl (fun _ => False) w2).drew)).mono ?_
   rintro e w3 ⟨rfl, rfl⟩
   go_wp2_with fail
   refine hK.out _ _ (⟨(B2.out.drew.cell 0), (B2.out.drew.cell 1), (B2.out.drew.cell 2), (B2.out.drew.cell 3), (B2.out.drew.cell 4)⟩) (fun hHeld1 => ?_)
   clear hK K
   try simp only [Act.put, sIa, sI0, sI1]
   refine tk 8 (h := ?_)
   refine tk 9 (h := ?_)
   refine wpAnyH_done (by kernel_rfl) ?_ _
   clear hwn hd1 hHeld
   have B3 := hHd (B2.out.drew)
   have K3 := hHd (K2.out.drew)
   have D3 := hHd (DD.out.still K3.out)
   generalize w2.drew = w3 at *
   have c2 := B3.out.cell 2
   simp at c2
   go_wp2_with fail
   refine (inPlace_any D3.out (HT.out.kp K3.out (fun e => e)) h.n hn0 hn5 hlen HPW.out).mono ?_
   rintro e w4 ⟨gm, rfl, _, hfm3, hk3⟩
   have B4 := hHd (B3.out.kp hk3 (fun e => e))
   have K4 := hHd (K3.out.trans hk3)
   have F4 := hHd hfm3
   clear hfm3 hk3 c2
   go_upto_region 11 with fail
   refine wp_region_held_drew (S := fun v => v.cell? ⟨g5, 0, none⟩ = some (.int .u64 h.g) /\ v.cell? ⟨g5, 1, none⟩ = some (.int .u64 h.f) /\ v.cell? ⟨g5, 2, none⟩ = some (.int .i64 h.n) /\ v.cell? ⟨g5, 3, none⟩ = some (.string ⟨h.note.toArray⟩) /\ v.cell? ⟨g5, 4, none⟩ = some (.int .i64 a)) (by kernel_rfl) (⟨(B4.out.cell 0), (B4.out.cell 1), (B4.out.cell 2), (B4.out.cell 3), (B4.out.cell 4)⟩) (fun hHeld => ?_)
   refine tk 0 (h := ?_)
   refine tk 1 (h := ?_)
   refine tk 2 (h := ?_)
   refine tk 3 (h := ?_)
   refine tk 4 (h := ?_)
   refine tk 8 (h := ?_)
   refine tk 9 (h := ?_)
   refine tk 10 (h := ?_)
   refine rd 5 (h := fun K hK => ?_)
   go_simp
   refine (behind_any (F4.out.kp (Kp.refl (fun _ => False) w4).drew (fun e => e)) (fun q s hs => by have h1 := sheetF_q hs; rw [<- h1.1]; exact (takeS_lt h1.2).1) h.f HOK.out.f_).mono ?_
   rintro e w5 ⟨r, rfl, hr, hk⟩
   have B5 := hHd ((B4.out.drew).kp hk (fun e => e))
   have K5 := hHd (K4.out.drew.trans hk)
   have F5 := hHd (F4.out.kp ((Kp.refl (fun _ => False) w4).drew.trans hk) (fun e => e))
   have HRN := hHd (hr.one (nextF_is d.nowAt h.n h.f hn0))
   clear hr hk
   go_wp2_with fail
   refine hK.out _ _ (⟨(B5.out.cell 0), (B5.out.cell 1), (B5.out.cell 2), (B5.out.cell 3), (B5.out.cell 4)⟩) (fun hHeld2 => ?_)
   clear hK K
   try simp only [Act.put, sIa, sI0, sI1]
   refine tk 6 (h := ?_)
   refine wpAnyH_ready (rs := [7, 11]) (by kernel_rfl) (by simp) ?_
   refine rdc 7 (h := fun K hK => ?_) (hs := rdc 11 (h := fun K hK => ?_) (hs := AllReadyH.nil))
   ·go_simp
    have B6 := hHd (B5.out.alloc (.cells #[.pointer (some ⟨b, 0, none⟩), .int .u64 h.g, .int .u64 h.f, .int .i64 h.n, .string ⟨h.note.toArray⟩, .int .i64 a, .int .u64 r, .int .i64 0, .bool false] 130))
    have K6 := hHd (K5.out.alloc (.cells #[.pointer (some ⟨b, 0, none⟩), .int .u64 h.g, .int .u64 h.f, .int .i64 h.n, .string ⟨h.note.toArray⟩, .int .i64 a, .int .u64 r, .int .i64 0, .bool false] 130))
    have G6 := hHd (Box.new w5 130 #[.pointer (some ⟨b, 0, none⟩), .int .u64 h.g, .int .u64 h.f, .int .i64 h.n, .string ⟨h.note.toArray⟩, .int .i64 a, .int .u64 r, .int .i64 0, .bool false])
    have F6 := hHd (F5.out.kp ((Kp.refl (fun _ => False) w5).alloc (.cells #[.pointer (some ⟨b, 0, none⟩), .int .u64 h.g, .int .u64 h.f, .int .i64 h.n, .string ⟨h.note.toArray⟩, .int .i64 a, .int .u64 r, .int .i64 0, .bool false] 130)) (fun e => e))
    have hlt := G6.out.lt
    have hgg := K5.out.size
    generalize w5.alloc (.cells #[.pointer (some ⟨b, 0, none⟩), .int .u64 h.g, .int .u64 h.f, .int .i64 h.n, .string ⟨h.note.toArray⟩, .int .i64 a, .int .u64 r, .int .i64 0, .bool false] 130) = w6 at *
    generalize w5.heap.size = g at *
    refine hK.out _ _ (⟨(B6.out.cell 0), (B6.out.cell 1), (B6.out.cell 2), (B6.out.cell 3), (B6.out.cell 4)⟩) (fun hHeld3 => ?_)
    clear hK K
    try simp only [Act.put, sIa, sI0, sI1]
    refine rd 11 (h := fun K hK => ?_)
    go_simp
    refine (texts_any F6.out hn0 HOK.out.hi h.f HFB.out).mono ?_
    rintro e w7 ⟨v, rfl, hown, hk⟩
    obtain ⟨A, c, rfl⟩ := own_shape3 hown
    have B7 := hHd (B6.out.kp hk (fun e => e))
    have K7 := hHd (K6.out.trans hk)
    have R7 := hHd (own_base' hown K6.out.size)
    have G7 := hHd (G6.out.kp hk (fun e => e))
    clear hown hk
    go_wp2_with fail
    refine hK.out _ _ (⟨(B7.out.cell 0), (B7.out.cell 1), (B7.out.cell 2), (B7.out.cell 3), (B7.out.cell 4)⟩) (fun hHeld4 => ?_)
    clear hK K
    try simp only [Act.put, sIa, sI0, sI1]
    refine tk 12 (h := ?_)
    refine tk 13 (h := ?_)
    refine tk 14 (h := ?_)
    refine wpAnyH_done (by kernel_rfl) ?_ _
    go_wp2_with fail
    refine bodyPost_ret (v := .tuple #[.pointer (some ⟨g, 0, none⟩), .slice A (textsF d.nowAt h.n h.f).length c, .int .i64 0]) (by simp [results, Tryz.results41, go_sem]) rfl ?_
    rw [HX.out]
    refine ⟨g, .slice A (textsF d.nowAt h.n h.f).length c, rfl, ?_, R7.out, hgg, K7.out⟩
    have := G7.out
    rw [HRN.out] at this
    exact this
   ·go_simp
    refine (texts_any F5.out hn0 HOK.out.hi h.f HFB.out).mono ?_
    rintro e w6 ⟨v, rfl, hown, hk⟩
    obtain ⟨A, c, rfl⟩ := own_shape3 hown
    have B6 := hHd (B5.out.kp hk (fun e => e))
    have K6 := hHd (K5.out.trans hk)
    have R6 := hHd (own_base' hown K5.out.size)
    clear hown hk
    go_wp2_with fail
    refine hK.out _ _ (⟨(B6.out.cell 0), (B6.out.cell 1), (B6.out.cell 2), (B6.out.cell 3), (B6.out.cell 4)⟩) (fun hHeld5 => ?_)
    clear hK K
    try simp only [Act.put, sIa, sI0, sI1]
    refine rd 7 (h := fun K hK => ?_)
    go_simp
    have B7 := hHd (B6.out.alloc (.cells #[.pointer (some ⟨b, 0, none⟩), .int .u64 h.g, .int .u64 h.f, .int .i64 h.n, .string ⟨h.note.toArray⟩, .int .i64 a, .int .u64 r, .int .i64 0, .bool false] 130))
    have K7 := hHd (K6.out.alloc (.cells #[.pointer (some ⟨b, 0, none⟩), .int .u64 h.g, .int .u64 h.f, .int .i64 h.n, .string ⟨h.note.toArray⟩, .int .i64 a, .int .u64 r, .int .i64 0, .bool false] 130))
    have G7 := hHd (Box.new w6 130 #[.pointer (some ⟨b, 0, none⟩), .int .u64 h.g, .int .u64 h.f, .int .i64 h.n, .string ⟨h.note.toArray⟩, .int .i64 a, .int .u64 r, .int .i64 0, .bool false])
    have R7 := hHd (R6.out.alloc (.cells #[.pointer (some ⟨b, 0, none⟩), .int .u64 h.g, .int .u64 h.f, .int .i64 h.n, .string ⟨h.note.toArray⟩, .int .i64 a, .int .u64 r, .int .i64 0, .bool false] 130))
    have hgg := K6.out.size
    generalize w6.alloc (.cells #[.pointer (some ⟨b, 0, none⟩), .int .u64 h.g, .int .u64 h.f, .int .i64 h.n, .string ⟨h.note.toArray⟩, .int .i64 a, .int .u64 r, .int .i64 0, .bool false] 130) = w7 at *
    generalize w6.heap.size = g at *
    refine hK.out _ _ (⟨(B7.out.cell 0), (B7.out.cell 1), (B7.out.cell 2), (B7.out.cell 3), (B7.out.cell 4)⟩) (fun hHeld6 => ?_)
    clear hK K
    try simp only [Act.put, sIa, sI0, sI1]
    refine tk 12 (h := ?_)
    refine tk 13 (h := ?_)
    refine tk 14 (h := ?_)
    refine wpAnyH_done (by kernel_rfl) ?_ _
    go_wp2_with fail
    refine bodyPost_ret (v := .tuple #[.pointer (some ⟨g, 0, none⟩), .slice A (textsF d.nowAt h.n h.f).length c, .int .i64 0]) (by simp [results, Tryz.results41, go_sem]) rfl ?_
    rw [HX.out]
    refine ⟨g, .slice A (textsF d.nowAt h.n h.f).length c, rfl, ?_, R7.out, hgg, K7.out⟩
    have := G7.out
    rw [HRN.out] at this
    exact this
  ·obtain ⟨z, hz⟩ : ∃ z : Int, 2 + (h.n : Int) = z := ⟨_, rfl⟩
   have hd1 : decide ((d.on.length : Int) < z) = true := by simp; omega
   have hwn : IntKind.i64.wrap (2 + (h.n : Int)) = z := by rw [IntWalk.i64_in _ (by omega)]; exact hz
   have HX := hHd (show d.openS = (none, 12) by rw [hfm]; dsimp only; rw [if_neg hlen])
   clear hfm hcv hpw hfb hh hok hz
   go_enter Tryz.func41, Tryz.ntmps41
   go_wp2_with fail
   refine (counting_any DD.out HT.out).mono ?_
   rintro e w1 ⟨rfl, hk⟩
   rw [HCV.out]
   have B2 := hHd (Box.new w1 122 #[.int .u64 h.g, .int .u64 h.f, .int .i64 h.n, .string ⟨h.note.toArray⟩, .int .i64 a])
   have K2 := hHd (hk.alloc (.cells #[.int .u64 h.g, .int .u64 h.f, .int .i64 h.n, .string ⟨h.note.toArray⟩, .int .i64 a] 122))
   have hg5 := hk.size
   clear hk
   go_upto_region 4 with fail
   generalize w1.alloc (.cells #[.int .u64 h.g, .int .u64 h.f, .int .i64 h.n, .string ⟨h.note.toArray⟩, .int .i64 a] 122) = w2 at *
   generalize w1.heap.size = g5 at *
   have D2 := hHd (DD.out.still K2.out)
   go_upto_region 6 with fail
   refine wp_region_held_drew (S := fun v => v.cell? ⟨g5, 0, none⟩ = some (.int .u64 h.g) /\ v.cell? ⟨g5, 1, none⟩ = some (.int .u64 h.f) /\ v.cell? ⟨g5, 2, none⟩ = some (.int .i64 h.n) /\ v.cell? ⟨g5, 3, none⟩ = some (.string ⟨h.note.toArray⟩) /\ v.cell? ⟨g5, 4, none⟩ = some (.int .i64 a)) (by kernel_rfl) (⟨(B2.out.cell 0), (B2.out.cell 1), (B2.out.cell 2), (B2.out.cell 3), (B2.out.cell 4)⟩) (fun hHeld => ?_)
   refine tk 0 (h := ?_)
   refine tk 1 (h := ?_)
   refine tk 2 (h := ?_)
   refine tk 3 (h := ?_)
   refine tk 4 (h := ?_)
   refine tk 5 (h := ?_)
   refine tk 6 (h := ?_)
   refine rd 7 (h := fun K hK => ?_)
   go_simp
   refine (len_any (D2.out.still (Kp.refl (fun _ => False) w2).drew)).mono ?_
   rintro e w3 ⟨rfl, rfl⟩
   go_wp2_with fail
   refine hK.out _ _ (⟨(B2.out.drew.cell 0), (B2.out.drew.cell 1), (B2.out.drew.cell 2), (B2.out.drew.cell 3), (B2.out.drew.cell 4)⟩) (fun hHeld7 => ?_)
   clear hK K
   try simp only [Act.put, sIa, sI0, sI1]
   refine tk 8 (h := ?_)
   refine tk 9 (h := ?_)
   refine wpAnyH_done (by kernel_rfl) ?_ _
   go_wp2_with fail
   refine bodyPost_ret (v := .tuple #[.pointer none, .slice none 0 0, .int .i64 12]) (by simp [results, Tryz.results41, go_sem]) rfl ?_
   rw [HX.out]
   exact ⟨rfl, K2.out.drew⟩
end
theorem lnote_any {w : World} {g b : Nat} {l : Lm} (h : Box w g 130 (lcs b l)) :
  Calls Tryz.prog 90 #[.pointer (some ⟨g, 0, none⟩)] w fun e w' => e = .returned (.string ⟨l.h.note.toArray⟩) /\ w = w' := by
 have c := h.cell 4
 simp [lcs] at c
 clear h
 go_enter Tryz.func90, Tryz.ntmps90
 go_wp2_with fail
 go_ret
 exact ⟨rfl, rfl⟩
theorem lsectors_any {w : World} {g b : Nat} {l : Lm} (h : Box w g 130 (lcs b l)) :
  Calls Tryz.prog 61 #[.pointer (some ⟨g, 0, none⟩)] w fun e w' => e = .returned (.int .i64 l.h.n) /\ w = w' := by
 have c := h.cell 3
 simp [lcs] at c
 clear h
 go_enter Tryz.func61, Tryz.ntmps61
 go_wp2_with fail
 go_ret
 exact ⟨rfl, rfl⟩
structure Lm.ok (l : Lm) : Prop where
 h_ : l.h.ok
 a_ : l.a <= 1
 next_ : l.next < 18446744073709551616
 left_ : l.left <= 512
theorem wrap_add (n k : Nat) : IntKind.u64.wrap ((n : Int) + k) = (((n + k) % 18446744073709551616 : Nat) : Int) := by
 simp [IntKind.wrap, IntKind.bits, IntKind.signed]
theorem commit_eq (l : Lm) (d : Dm) (t : List UInt8) (hd : l.dead = false) (h1 : ¬ l.h.n < need t.length) (h2 : ¬ l.left < need t.length) : l.commitS d t = if (Dm.putAll l.h.n (cutL l.next t) d).2 = 0 then ({ l with next := (l.next + need t.length) % 18446744073709551616, left := l.left - need t.length }, (Dm.putAll l.h.n (cutL l.next t) d).1, 0) else ({ l with dead := (Dm.putAll l.h.n (cutL l.next t) d).2 == 4 }, (Dm.putAll l.h.n (cutL l.next t) d).1, (Dm.putAll l.h.n (cutL l.next t) d).2) := by
 unfold Lm.commitS
 rw [hd, if_neg (by decide), if_neg h1, if_neg h2]
section
variable {w : World} {b g : Nat} {d : Dm} {l : Lm} {F : Nat -> Prop}
theorem commit_any (hF : ∀ k, w.heap.size <= k -> F k) (hFT : ¬ (F 1 /\ DT w 1)) (hD : Dsk F w b d) (ht : Tbl w) (hb : Box w g 130 (lcs b l)) (ok : l.ok) (t : List UInt8) (htx : t.length <= 1000000) (hw : d.wait.length + 10000 < 1073741824) :
  Calls Tryz.prog 74 #[.pointer (some ⟨g, 0, none⟩), .string ⟨t.toArray⟩] w fun e w' => e = .returned (.int .i64 (l.commitS d t).2.2) /\ Dsk F w' b (l.commitS d t).2.1 /\ Box w' g 130 (lcs b (l.commitS d t).1) /\ Kp (fun k => F k \/ k = g) w w' := by
 have HF := hHd hF
 have HFT := hHd hFT
 have DD := hHd hD
 have HT := hHd ht
 have BL := hHd hb
 have HOK := hHd ok.h_
 have HNX := hHd ok.next_
 have HTX := hHd htx
 have HWT := hHd hw
 have hn0 : 0 < l.h.n := by have := ok.h_.lo; omega
 have hn5 : l.h.n <= 512 := ok.h_.hi
 have hl5 := ok.left_
 have htl := note_size t
 have HTL := hHd htl
 have hlen : t.length <= 140737488355328 := by omega
 clear hF hFT hD ht ok hw htl
 rcases hdd : l.dead with _ | _
 ·have hr := ready_any g b l w hb
  rw [hdd, if_neg (by decide)] at hr
  have c3 := hb.cell 3
  have c7 := hb.cell 7
  have c6 := hb.cell 6
  simp only [lcs] at c3 c7 c6
  simp at c3 c7 c6
  by_cases h1 : l.h.n < need t.length
  ·have HX := hHd (show l.commitS d t = (l, d, 6) by simp [Lm.commitS, hdd, h1])
   have hd1 : decide (l.h.n < need t.length) = true := by simpa using h1
   clear hdd h1 hb
   go_enter Tryz.func74, Tryz.ntmps74
   go_wp2_with fail
   refine hr.mono ?_
   clear hr
   rintro e w1 ⟨rfl, rfl⟩
   go_wp2_with fail
   refine (need_any t.length w hlen).mono ?_
   rintro e w1 ⟨rfl, rfl⟩
   generalize need t.length = nd at *
   go_wp2_with fail
   go_ret
   rw [HX.out]
   exact ⟨rfl, DD.out, BL.out, Kp.refl _ _⟩
  by_cases h2 : l.left < need t.length
  ·have HX := hHd (show l.commitS d t = (l, d, 5) by simp [Lm.commitS, hdd, h1, h2])
   have hd1 : decide (l.h.n < need t.length) = false := by simpa using h1
   have hd2 : decide (l.left < need t.length) = true := by simpa using h2
   clear hdd h1 h2 hb
   go_enter Tryz.func74, Tryz.ntmps74
   go_wp2_with fail
   refine hr.mono ?_
   clear hr
   rintro e w1 ⟨rfl, rfl⟩
   go_wp2_with fail
   refine (need_any t.length w hlen).mono ?_
   rintro e w1 ⟨rfl, rfl⟩
   generalize need t.length = nd at *
   go_wp2_with fail
   go_ret
   rw [HX.out]
   exact ⟨rfl, DD.out, BL.out, Kp.refl _ _⟩
  ·have hX := commit_eq l d t hdd h1 h2
   have hd1 : decide (l.h.n < need t.length) = false := by simpa using h1
   have hd2 : decide (l.left < need t.length) = false := by simpa using h2
   have HDD := hHd hdd
   have H2 := hHd (show need t.length <= l.left by omega)
   clear hdd h1 h2 hb
   go_enter Tryz.func74, Tryz.ntmps74
   go_wp2_with fail
   refine hr.mono ?_
   clear hr
   rintro e w1 ⟨rfl, rfl⟩
   go_wp2_with fail
   refine (need_any t.length w hlen).mono ?_
   rintro e w1 ⟨rfl, rfl⟩
   obtain ⟨nd, hnd⟩ : ∃ nd, need t.length = nd := ⟨_, rfl⟩
   rw [hnd] at hd1 hd2 hX H2 ⊢
   obtain ⟨r, hr⟩ : ∃ r, Dm.putAll l.h.n (cutL l.next t) d = r := ⟨_, rfl⟩
   rw [hr] at hX
   obtain ⟨r1, r2⟩ := r
   have HR := hHd hr
   have HX := hHd hX
   clear hnd hr hX
   go_upto_region 9 with fail
   refine wp_region_held_drew (S := fun v => v.cell? ⟨g, 0, none⟩ = some (.pointer (some ⟨b, 0, none⟩)) /\ v.cell? ⟨g, 3, none⟩ = some (.int .i64 l.h.n) /\ v.cell? ⟨g, 6, none⟩ = some (.int .u64 l.next)) (by kernel_rfl) (⟨BL.out.cell 0, BL.out.cell 3, BL.out.cell 6⟩) (fun hHeld => ?_)
   refine tk 0 (h := ?_)
   refine tk 1 (h := ?_)
   refine tk 2 (h := ?_)
   refine tk 3 (h := ?_)
   refine tk 4 (h := ?_)
   refine tk 5 (h := ?_)
   refine tk 6 (h := ?_)
   refine tk 7 (h := ?_)
   refine tk 8 (h := ?_)
   refine tk 9 (h := ?_)
   refine tk 10 (h := ?_)
   refine tk 11 (h := ?_)
   refine tk 12 (h := ?_)
   refine tk 13 (h := ?_)
   refine tk 14 (h := ?_)
   refine rd 15 (h := fun K hK => ?_)
   go_simp
   have hpt := put_any2 (w := w.drew) (F := fun k => F k /\ DT w k) (newG HF.out (Nat.le_refl w.heap.size)) HFT.out (DD.out.still (Kp.refl (fun _ => False) w).drew).bothG (HT.out.kp (S := fun _ => False) (Kp.refl (fun _ => False) w).drew (fun e => e)) l.h.n l.next t hn0 HOK.out.hi HNX.out HTX.out HWT.out
   rw [HR.out] at hpt
   refine hpt.mono ?_
   clear hpt
   rintro e w1 ⟨rfl, hd, hk⟩
   have D1 := hHd (hd.mono (F' := F) (fun _ e => e.1))
   have K1 := hHd ((Kp.refl F w).drew.trans (hk.mono (fun _ _ e => e.1)))
   have B1 := hHd (BL.out.drew.kp hk (fun e => not_DT BL.out.drew ⟨by decide, by decide, by decide⟩ e.2))
   clear hd hk
   go_wp2_with fail
   refine hK.out _ _ (⟨B1.out.cell 0, B1.out.cell 3, B1.out.cell 6⟩) (fun hHeld1 => ?_)
   clear hK K
   try simp only [Act.put, sIa, sI0, sI1]
   refine rd 16 (h := fun K hK => ?_)
   go_simp
   refine (hear_any g b l r2 w1 B1.out).mono ?_
   rintro e w2 ⟨rfl, hb, hk⟩
   have B2 := hHd hb
   have D2 := hHd (D1.out.off B1.out ⟨by decide, by decide, by decide⟩ hk)
   have K2 := hHd ((K1.out.mono (S' := fun k => F k \/ k = g) (fun _ _ e => .inl e)).trans (hk.mono (fun _ _ e => .inr e)))
   clear hb hk
   go_wp2_with fail
   refine hK.out _ _ (⟨B2.out.cell 0, B2.out.cell 3, B2.out.cell 6⟩) (fun hHeld2 => ?_)
   clear hK K
   try simp only [Act.put, sIa, sI0, sI1]
   refine tk 17 (h := ?_)
   refine wpAnyH_done (by kernel_rfl) ?_ _
   clear c3 c6 c7 hHeld hHeld1 hHeld2
   by_cases hz : r2 = 0
   ·subst hz
    have HX2 := hHd (HX.out.trans (if_pos rfl))
    have HB := hHd (show Box w2 g 130 (lcs b l) by
     have := B2.out
     have e : ({ l with dead := l.dead || (0 : Int) == 4 } : Lm) = l := by rw [show ((0 : Int) == 4) = false from rfl, Bool.or_false]
     rwa [e] at this)
    have c6 := HB.out.cell 6
    have c7 := HB.out.cell 7
    have f6 := HB.out.free 6
    have f7 := HB.out.free 7
    simp only [lcs] at c6 c7
    simp at c6 c7
    have hwn : IntKind.u64.wrap (nd : Int) = nd := IntWalk.u64_in _ (by have := H2.out; omega)
    have hsb : IntKind.i64.wrap ((l.left : Int) - nd) = ((l.left - nd : Nat) : Int) := by rw [IntWalk.i64_in _ (by have := H2.out; omega)]; have := H2.out; omega
    have h2 := H2.out
    go_wp2_with fail
    have e1 : IntKind.u64.wrap ((l.next : Int) + nd) = (((l.next + nd) % 18446744073709551616 : Nat) : Int) := wrap_add l.next nd
    have HP := (HB.out.put 6 (.int .u64 (IntKind.u64.wrap ((l.next : Int) + nd)))).put 7 (.int .i64 ((l.left - nd : Nat) : Int))
    have hd := D2.out.off HB.out ⟨by decide, by decide, by decide⟩ ((Kp.one w2 g 6 (.int .u64 (IntKind.u64.wrap ((l.next : Int) + nd)))).trans (Kp.one _ g 7 (.int .i64 ((l.left - nd : Nat) : Int))))
    have hk := (K2.out.setCell (p := ⟨g, 6, none⟩) (.inr (.inr rfl)) (.int .u64 (IntKind.u64.wrap ((l.next : Int) + nd)))).setCell (p := ⟨g, 7, none⟩) (.inr (.inr rfl)) (.int .i64 ((l.left - nd : Nat) : Int))
    go_ret
    rw [HX2.out]
    refine ⟨rfl, hd, ?_, hk⟩
    rw [e1] at HP
    rw [e1]
    exact HP
   ·have HX2 := hHd (HX.out.trans (if_neg hz))
    have hne : (r2 != 0) = true := by simpa using hz
    have HB := hHd (show Box w2 g 130 (lcs b { l with dead := r2 == 4 }) by
     have := B2.out
     have e : ({ l with dead := l.dead || r2 == 4 } : Lm) = { l with dead := r2 == 4 } := by rw [HDD.out, Bool.false_or]
     rwa [e] at this)
    clear hz
    go_wp2_with fail
    go_ret
    rw [HX2.out]
    exact ⟨rfl, D2.out, HB.out, K2.out⟩
 ·have hr := ready_any g b l w hb
  rw [hdd, if_pos rfl] at hr
  have HX := hHd (show l.commitS d t = (l, d, 4) by simp [Lm.commitS, hdd])
  clear hdd hb
  go_enter Tryz.func74, Tryz.ntmps74
  go_wp2_with fail
  refine hr.mono ?_
  clear hr
  rintro e w1 ⟨rfl, rfl⟩
  go_wp2_with fail
  go_ret
  rw [HX.out]
  exact ⟨rfl, DD.out, BL.out, Kp.refl _ _⟩
end
end Go.Proofs.YtepaeliamhjgiaaGreatDoor
