/- The statement PagesPlay answers true for every input. No condition but that the tables of the program lie as it begins. -/
import Derived.Test.YtepaeliamhjgiaaGreatDoorMu1
import Derived.Test.YtepaeliamhjgiaaGreatDoorMu51
import Derived.Test.YtepaeliamhjgiaaGreatDoorMu42
import Derived.ChangeMaps5
import Derived.OpenShut
set_option maxHeartbeats 16000000
set_option maxRecDepth 100000
namespace Go.Proofs.YtepaeliamhjgiaaGreatDoor
open Go.RowKit Go.Maps
theorem pplays_walk (a0 : Int) (h0 : 0 <= a0) (h1 : a0 <= 255) (A : Option Addr) (l : List Aw) (c : Nat) (w : World) (h : Aws w w.heap.size A l) (hc : l.length <= c) (hm : c <= maxLen) (ht : Tbl w) (htb : Bt.Tbl w) :
  Calls Tryz.prog 3 #[.int .u8 a0, .slice A l.length c] w fun e w' => e = .returned (.bool true) /\ Kp (fun k => w.heap.size <= k) w w' := by
 have hgr := greatw_any h c hc hm
 have fin : ∀ {v v' : World}, Kp (fun _ => False) v v' -> Kp (fun k => v.heap.size <= k) v v' := fun hk => hk.of_false
 by_cases hg : greatW l = true
 ·rw [hg] at hgr
  clear h hg hm hc
  go_enter Tryz.func3, Tryz.ntmps3
  go_wp2_with fail
  refine hgr.mono ?_
  rintro e w' ⟨rfl, rfl⟩
  go_wp2_with fail
  refine (pwakes_true _ ht htb).mono ?_
  rintro e w9 ⟨rfl, k9⟩
  have K9 := hHd k9
  clear k9
  go_wp2_with fail
  go_ret
  exact ⟨rfl, fin K9.out⟩
 ·have hg' : greatW l = false := Bool.eq_false_iff.2 hg
  by_cases hn : 96 <= a0 /\ a0 <= 150
  ·obtain ⟨n, rfl⟩ := Int.eq_ofNat_of_zero_le h0
   exact pplays_main n (by omega) (by omega) A l c w h hc hm hg' ht htb
  ·rw [hg'] at hgr
   clear h hg hg' hm hc
   by_cases h2 : a0 < 96
   ·clear hn
    go_enter Tryz.func3, Tryz.ntmps3
    go_wp2_with fail
    refine hgr.mono ?_
    rintro e w' ⟨rfl, rfl⟩
    go_wp2_with fail
    refine (pwakes_true _ ht htb).mono ?_
    rintro e w9 ⟨rfl, k9⟩
    have K9 := hHd k9
    clear k9
    go_wp2_with fail
    go_ret
    exact ⟨rfl, fin K9.out⟩
   ·have h3 : 150 < a0 := by omega
    clear hn
    go_enter Tryz.func3, Tryz.ntmps3
    go_wp2_with fail
    refine hgr.mono ?_
    rintro e w' ⟨rfl, rfl⟩
    go_wp2_with fail
    refine (pwakes_true _ ht htb).mono ?_
    rintro e w9 ⟨rfl, k9⟩
    have K9 := hHd k9
    clear k9
    go_wp2_with fail
    go_ret
    exact ⟨rfl, fin K9.out⟩
end Go.Proofs.YtepaeliamhjgiaaGreatDoor
namespace Go.Proofs.YtepaeliamhjgiaaGreatDoor.pagesPlay
open Go.ChangeShapes Go.WideShapes Go.ChangeAt Go.RowKit
theorem laidOut : laidOutB Tryz.prog = true := by kernel_rfl
theorem lifted (os : Os) (started : os.Started) (H : Type) (enc : TypeId × Value -> H) :
  ReturnsInHanded {} Tryz.checked os 3 .any (fun w args => (Rows.pagesPlaySpec.pre enc Tryz.prog Tryz.f3 [] false w args /\ laidMetH Tryz.prog pages.laidL w) /\ sizedMet enc Tryz.prog Tryz.f3 (OpenSpec.ofChange Rows.pagesPlaySpec) false w args)
   (Rows.pagesPlaySpec.post enc Tryz.prog Tryz.f3 false true false false) := by
 refine returnsInHanded_of_change_and (C := Tryz.checked) (X := fun w _ => laidMetH Tryz.prog pages.laidL w) (fun _ _ _ hh h => h.of_heap hh) own started (by kernel_rfl) Tryz.func3
  (ChangeSpec.witness_shaped (enc := enc) (C := Tryz.checked) (os := os) (X := fun w _ => laidMetH Tryz.prog pages.laidL w) false (World.doorLaid Tryz.prog 400 os) #[.int .u8 0, .slice none 0 0] 8 rfl (World.shaped_of_RefB (by kernel_rfl) (by kernel_rfl)) (by kernel_rfl) (by kernel_rfl) (by kernel_rfl) (pages.door_met os _)) ?_
 intro W base args ds gs before hval0 hW _ _ hL _
 have hval : ∀ (j : Nat) t v, Tryz.f3.params[j]? = some t -> args[j]? = some v -> Value.okWide Tryz.prog W .any base t v := hval0
 have hW' := hW
 obtain ⟨p, q, hA0, hV, rfl, hfz, hnd⟩ := hW
 have hA : DataW.TrodAll enc Tryz.prog W 0 (fun _ => true) true Tryz.f3.params.toList args.toList ds p := hA0
 rw [Tryz.params3] at hA hval
 obtain ⟨v0, vs0, d0, ds0, p0, q0, hargs, rfl, rfl, h0, r0⟩ := trodAll_cons hA
 obtain ⟨v1, vs1, d1, ds1, p1, q1, rfl, rfl, rfl, h1, r1⟩ := trodAll_cons r0
 obtain ⟨rfl, rfl, rfl⟩ := trodAll_nil r1
 obtain rfl : args = #[v0, v1] := by cases args; simp_all
 obtain ⟨rfl, rfl⟩ := trodVars_none hV
 obtain ⟨a0, rfl, rfl, rfl, w0⟩ := open_int Tryz.underlying5 (hval 0 5 v0 rfl rfl) h0
 obtain ⟨a1, len1, cap1, rfl⟩ := okWide_slice Tryz.underlying22 (hval 1 22 v1 rfl rfl)
 have k1 := h1
 have lt1 : ∀ x ∈ p1, x.block < W.heap.size := by obtain ⟨m, hm⟩ := k1; exact DataW.trod_lt m _ _ _ hm
 obtain ⟨l, rfl, hl1, hm1, hi1⟩ := wopen_items h1
 clear hA0 hval0
 simp only [Lit.wf, Bool.and_eq_true, decide_eq_true_eq, u8_lo, u8_hi] at w0
 simp only [List.nil_append, List.append_nil] at hW'
 refine (pplays_walk a0 w0.1 w0.2 a1 l cap1 W hi1 hl1 hm1 (pages.tbl_of_laid hL).1 (pages.tbl_of_laid hL).2).mono fun e W' ⟨he, kp⟩ => ?_
 subst he
 have bel : Below W.heap.size W W' := kp.below (Nat.le_refl _) fun _ h => h
 exact ⟨_, rfl, _, _, _, [], _, [], hW', trodAll_mk1 (shut_bool Tryz.underlying4 _), trodAll_cons_mk (shut_int Tryz.underlying5 (by simp only [Lit.wf, Bool.and_eq_true, decide_eq_true_eq, u8_lo, u8_hi]; exact w0)) (trodAll_cons_mk (Below.trod laidOut (by kernel_rfl) (of_decide_eq_true (by kernel_rfl)) k1 bel lt1) trodAll_mk0), rfl, bel.frame _, fun h => by cases h⟩
theorem said : Rows.PagesPlaySaid :=
 OpenClaim.holds_of_wide 3 Tryz.f3 rfl rfl rfl rfl rfl rfl rfl ⟨rfl, rfl, rfl, rfl, rfl⟩ rfl rfl rfl rfl rfl (by kernel_rfl) Tryz.func3 (by kernel_rfl)
  (of_decide_eq_true (by kernel_rfl)) (by unfold Func.isWrapper; first | (rw [if_pos (by decide +kernel)]; kernel_rfl) | (rw [if_neg (by decide +kernel)]; exact ⟨rfl, rfl⟩))
  (fun os started H enc _ => lifted os started H enc)
theorem proved : Rows.PagesPlayCardSaid :=
 Claim7.holds_tied_plain_at .later [] [.data, .data] true (true, "1a785f4fd72d86b8b8165a7c9f660bd4dd7b48901f20bc532c6e22669a6e39a5") false
  said (fun _ h => by cases h) (by kernel_rfl) (fun _ h => by cases h) pagesPlay_row_tie rfl ⟨rfl, rfl⟩ (by kernel_rfl) rfl
  (fun f fn hf hfn => by
   obtain rfl : f = 3 := Option.some.inj ((show Tryz.prog.funcNamed "armarium/armariumlaw08.PagesPlay" = some 3 by kernel_rfl).symm.trans hf) |>.symm
   obtain rfl : fn = Tryz.f3 := (Option.some.inj (Tryz.func3.symm.trans hfn)).symm
   exact ⟨by kernel_rfl, fun j t ht => by
    rw [Tryz.params3] at ht
    have hm : t ∈ [5, 22] := by simpa using Array.mem_of_getElem? ht
    have hall : ([5, 22].all fun u => !Tryz.prog.wantsStandIn u) = true := by kernel_rfl
    exact (show Tryz.prog.wantsStandIn t = false by simpa using List.all_eq_true.1 hall t hm)⟩)
  (by kernel_rfl)
end Go.Proofs.YtepaeliamhjgiaaGreatDoor.pagesPlay
