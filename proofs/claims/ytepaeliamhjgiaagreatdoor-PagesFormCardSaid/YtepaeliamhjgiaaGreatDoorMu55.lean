/- The statement PagesForm answers true for every input. No condition but that the tables of the program lie as it begins. -/
import Derived.Test.YtepaeliamhjgiaaGreatDoorMu1
import Derived.Test.YtepaeliamhjgiaaGreatDoorMu54
import Derived.Test.YtepaeliamhjgiaaGreatDoorMu51
import Derived.Test.YtepaeliamhjgiaaGreatDoorMu42
import Derived.ChangeMaps5
set_option maxHeartbeats 16000000
set_option maxRecDepth 100000
namespace Go.Proofs.YtepaeliamhjgiaaGreatDoor
open Go.RowKit Go.Maps Go.Shelf
theorem pform_no (m : Nat) (L n : Int) (m1 : 1 <= m) (m2 : m <= 1500) (note : List UInt8) (hn : note.length <= 100) (hb1 : -9223372036854775808 <= n) (hb2 : n <= 9223372036854775807) (hmay : ¬ (96 <= L /\ L <= 512 /\ 64 <= n /\ n <= 1024 /\ note.length <= 40 /\ 2 + L + n <= m)) (w : World) (tb : Tbl w) (tbb : Bt.Tbl w) :
  Calls Tryz.prog 4 #[.int .u16 m, .int .i64 L, .int .i64 n, .string ⟨note.toArray⟩] w fun e w' => e = .returned (.bool true) /\ Kp (fun k => w.heap.size <= k) w w' := by
 have hmp : mayP (newDm m) L n note = false := by
  rcases h : mayP (newDm m) L n note with _ | _
  ·rfl
  ·unfold mayP plogB ppgsB at h
   have hlen : (newDm m).on.length = m := by show (List.replicate m zsec).length = m; simp
   rw [hlen] at h
   simp only [Bool.and_eq_true, decide_eq_true_eq] at h
   exact absurd ⟨h.1.1.1.1, h.1.1.1.2, h.1.1.2.1, h.1.1.2.2, h.1.2, h.2⟩ hmay
 have HMP := hHd hmp
 clear hmp
 have TB := hHd tb
 have TBB := hHd tbb
 have HM1 := hHd m1
 have HM2 := hHd m2
 have hs := note_size note
 have a1 : ¬ ((m : Int) < 1) := by omega
 have a2 : ¬ (1500 < (m : Int)) := by omega
 have a3 : ¬ (100 < (note.length : Int)) := by omega
 have e3 : IntKind.i64.wrap (m : Int) = (m : Int) := IntWalk.i64_in _ (by omega)
 clear tb tbb m1 m2
 have hcase : (¬ (96 : Int) <= L) \/ ((96 : Int) <= L /\ ¬ L <= 512) \/ ((96 : Int) <= L /\ L <= 512 /\ ¬ (64 : Int) <= n) \/ ((96 : Int) <= L /\ L <= 512 /\ (64 : Int) <= n /\ ¬ n <= 1024) \/ ((96 : Int) <= L /\ L <= 512 /\ (64 : Int) <= n /\ n <= 1024 /\ ¬ (note.length : Int) <= 40) \/ ∃ q r : Int, (96 : Int) <= L /\ L <= 512 /\ (64 : Int) <= n /\ n <= 1024 /\ (note.length : Int) <= 40 /\ IntKind.i64.wrap (2 + L) = q /\ IntKind.i64.wrap (q + n) = r /\ ¬ r <= m := by
  by_cases h1 : (96 : Int) <= L
  ·by_cases h2 : L <= 512
   ·by_cases h3 : (64 : Int) <= n
    ·by_cases h4 : n <= 1024
     ·by_cases h5 : (note.length : Int) <= 40
      ·refine .inr (.inr (.inr (.inr (.inr ⟨2 + L, 2 + L + n, h1, h2, h3, h4, h5, IntWalk.i64_in _ (by omega), IntWalk.i64_in _ (by omega), fun h6 => hmay ⟨h1, h2, h3, h4, by omega, h6⟩⟩))))
      ·exact .inr (.inr (.inr (.inr (.inl ⟨h1, h2, h3, h4, h5⟩))))
     ·exact .inr (.inr (.inr (.inl ⟨h1, h2, h3, h4⟩)))
    ·exact .inr (.inr (.inl ⟨h1, h2, h3⟩))
   ·exact .inr (.inl ⟨h1, h2⟩)
  ·exact .inl h1
 have hone : ((1 : Int) < m) \/ ¬ ((1 : Int) < m) := Decidable.em _
 have HCASE := hHd hcase
 have HONE := hHd hone
 clear hmay hn hb1 hb2 hcase hone
 go_enter Tryz.func4, Tryz.ntmps4
 go_wp2_with fail
 clear a1 a3
 refine (dnew_any m HM1.out (by have := HM2.out; omega) w).mono ?_
 rintro e w1 ⟨b, rfl, hd, hk1⟩
 have D1 := hHd hd
 have K1 := hHd (hk1.of_false (S := fun k => w.heap.size <= k))
 clear hd hk1
 go_wp2_with fail
 refine (popen_none D1.out (TB.out.kp K1.out (fun e => by have := tbl_low TB.out; omega)) (fun h a e => by rw [(new_openS m).2] at e; cases e) (new_openS m).1 (by decide)).mono ?_
 rintro e w2 ⟨rfl, hk2⟩
 have D2 := hHd (D1.out.still hk2)
 have K2 := hHd (K1.out.trans hk2.of_false)
 clear hk2
 go_wp2_with fail
 refine (pformat_no D2.out L n note HMP.out).mono ?_
 rintro e w3 ⟨rfl, hk3⟩
 have D3 := hHd (D2.out.still hk3)
 have K3 := hHd (K2.out.trans hk3.of_false)
 clear hk3
 rcases HCASE.out with b1 | ⟨b1, b2⟩ | ⟨b1, b2, b3⟩ | ⟨b1, b2, b3, b4⟩ | ⟨b1, b2, b3, b4, b5⟩ | ⟨q, r, b1, b2, b3, b4, b5, e1, e2, b6⟩ <;> rcases HONE.out with b7 | b7 <;> (as_aux_lemma =>
  clear HCASE HONE
  go_wp2_with fail
  refine (popen_none D3.out (TB.out.kp K3.out (fun e => by have := tbl_low TB.out; omega)) (fun h a e => by rw [(new_openS m).2] at e; cases e) (new_openS m).1 (by decide)).mono ?_
  rintro e w4 ⟨rfl, hk4⟩
  have K4 := hHd (K3.out.trans hk4.of_false)
  clear hk4
  go_wp2_with fail
  as_aux_lemma =>
   refine (popen_nil _).mono ?_
   rintro e v21 ⟨rfl, hk21⟩
   have Q21 := hHd (K4.out.trans hk21.of_false)
   clear hk21
   go_wp2_with fail
   refine (ppage_nil 0 _).mono ?_
   rintro e v22 ⟨rfl, hk22⟩
   have Q22 := hHd (Q21.out.trans hk22.of_false)
   clear hk22
   go_wp2_with fail
   refine (palloc_nil _).mono ?_
   rintro e v23 ⟨rfl, hk23⟩
   have Q23 := hHd (Q22.out.trans hk23.of_false)
   clear hk23
   go_wp2_with fail
   refine (pabort_nil _).mono ?_
   rintro e v24 ⟨rfl, rfl⟩
   go_wp2_with fail
   as_aux_lemma =>
    refine (pput_nil 1 _).mono ?_
    rintro e v25 ⟨rfl, hk25⟩
    have Q25 := hHd (Q23.out.trans hk25.of_false)
    clear hk25
    go_wp2_with fail
    refine (pfree_nil 1 _).mono ?_
    rintro e v26 ⟨rfl, hk26⟩
    have Q26 := hHd (Q25.out.trans hk26.of_false)
    clear hk26
    go_wp2_with fail
    refine (pcommit_nil _).mono ?_
    rintro e v27 ⟨rfl, hk27⟩
    have Q27 := hHd (Q26.out.trans hk27.of_false)
    clear hk27
    go_wp2_with fail
    as_aux_lemma =>
     refine (pused_nil _).mono ?_
     rintro e v28 ⟨rfl, rfl⟩
     go_wp2_with fail
     refine (pchanged_nil _).mono ?_
     rintro e v29 ⟨rfl, rfl⟩
     go_wp2_with fail
     refine (pdisk_nil _).mono ?_
     rintro e v30 ⟨rfl, rfl⟩
     go_wp2_with fail
     refine (ppages_nil _).mono ?_
     rintro e v31 ⟨rfl, rfl⟩
     go_wp2_with fail
     refine (pbehind_nil _).mono ?_
     rintro e v32 ⟨rfl, rfl⟩
     go_wp2_with fail
     as_aux_lemma =>
      refine (pnote_nil _).mono ?_
      rintro e v33 ⟨rfl, rfl⟩
      go_wp2_with fail
      refine (pformat_nil _ _ _ _).mono ?_
      rintro e v34 ⟨rfl, hk34⟩
      have Q34 := hHd (Q27.out.trans hk34.of_false)
      clear hk34
      go_wp2_with fail
      have T9 := TB.out.kp Q34.out (fun e => by have := tbl_low TB.out; omega)
      have T9b := TBB.out.kp Q34.out (fun e => by have := btbl_low TBB.out; omega)
      refine (pwakes_true _ T9 T9b).mono ?_
      rintro e w9 ⟨rfl, hk9⟩
      have K9 := hHd (Q34.out.trans hk9.of_false)
      clear hk9 T9 T9b
      go_wp2_with fail
      go_ret
      exact ⟨rfl, K9.out⟩)
theorem pforms_walk (a0 L n : Int) (h0 : 0 <= a0) (hb1 : -9223372036854775808 <= n) (hb2 : n <= 9223372036854775807) (note : List UInt8) (w : World) (ht : Tbl w) (htb : Bt.Tbl w) :
  Calls Tryz.prog 4 #[.int .u16 a0, .int .i64 L, .int .i64 n, .string ⟨note.toArray⟩] w fun e w' => e = .returned (.bool true) /\ Kp (fun k => w.heap.size <= k) w w' := by
 have TB := hHd ht
 have TBB := hHd htb
 have hs := note_size note
 by_cases h1 : a0 < 1
 ·clear ht htb h0 hb1 hb2
  go_enter Tryz.func4, Tryz.ntmps4
  go_wp2_with fail
  refine (pwakes_true _ TB.out TBB.out).mono ?_
  rintro e w9 ⟨rfl, k9⟩
  have K9 := hHd k9
  clear k9
  go_wp2_with fail
  go_ret
  exact ⟨rfl, K9.out.of_false⟩
 ·by_cases h2 : 1500 < a0
  ·clear ht htb h0 hb1 hb2
   go_enter Tryz.func4, Tryz.ntmps4
   go_wp2_with fail
   refine (pwakes_true _ TB.out TBB.out).mono ?_
   rintro e w9 ⟨rfl, k9⟩
   have K9 := hHd k9
   clear k9
   go_wp2_with fail
   go_ret
   exact ⟨rfl, K9.out.of_false⟩
  ·by_cases h3 : (100 : Int) < note.length
   ·clear ht htb h0 hb1 hb2
    go_enter Tryz.func4, Tryz.ntmps4
    go_wp2_with fail
    refine (pwakes_true _ TB.out TBB.out).mono ?_
    rintro e w9 ⟨rfl, k9⟩
    have K9 := hHd k9
    clear k9
    go_wp2_with fail
    go_ret
    exact ⟨rfl, K9.out.of_false⟩
   ·obtain ⟨m, rfl⟩ := Int.eq_ofNat_of_zero_le h0
    by_cases hmay : 96 <= L /\ L <= 512 /\ 64 <= n /\ n <= 1024 /\ note.length <= 40 /\ 2 + L + n <= m
    ·obtain ⟨l1, l2, p1, p2, p3, p4⟩ := hmay
     obtain ⟨L, rfl⟩ := Int.eq_ofNat_of_zero_le (show 0 <= L by omega)
     obtain ⟨n, rfl⟩ := Int.eq_ofNat_of_zero_le (show 0 <= n by omega)
     exact pform_yes m L n (by omega) (by omega) (by omega) (by omega) (by omega) (by omega) note p3 (by omega) w ht htb
    ·exact pform_no m L n (by omega) (by omega) note (by omega) hb1 hb2 hmay w ht htb
end Go.Proofs.YtepaeliamhjgiaaGreatDoor
namespace Go.Proofs.YtepaeliamhjgiaaGreatDoor.pagesForm
open Go.ChangeShapes Go.WideShapes Go.ChangeAt Go.RowKit
open Go.ChangeMaps (open_string shut_string)
theorem lifted (os : Os) (started : os.Started) (H : Type) (enc : TypeId × Value -> H) :
  ReturnsInHanded {} Tryz.checked os 4 .any (fun w args => (Rows.pagesFormSpec.pre enc Tryz.prog Tryz.f4 [] false w args /\ laidMetH Tryz.prog pages.laidL w) /\ sizedMet enc Tryz.prog Tryz.f4 (OpenSpec.ofChange Rows.pagesFormSpec) false w args)
   (Rows.pagesFormSpec.post enc Tryz.prog Tryz.f4 false true false false) := by
 refine returnsInHanded_of_change_and (C := Tryz.checked) (X := fun w _ => laidMetH Tryz.prog pages.laidL w) (fun _ _ _ hh h => h.of_heap hh) own started (by kernel_rfl) Tryz.func4
  (ChangeSpec.witness_shaped (enc := enc) (C := Tryz.checked) (os := os) (X := fun w _ => laidMetH Tryz.prog pages.laidL w) false (World.doorLaid Tryz.prog 400 os) #[.int .u16 0, .int .i64 0, .int .i64 0, .string ⟨#[]⟩] 8 rfl (World.shaped_of_RefB (by kernel_rfl) (by kernel_rfl)) (by kernel_rfl) (by kernel_rfl) (by kernel_rfl) (pages.door_met os _)) ?_
 intro W base args ds gs before hval0 hW _ _ hL _
 have hval : ∀ (j : Nat) t v, Tryz.f4.params[j]? = some t -> args[j]? = some v -> Value.okWide Tryz.prog W .any base t v := hval0
 have hW' := hW
 obtain ⟨p, q, hA0, hV, rfl, hfz, hnd⟩ := hW
 have hA : DataW.TrodAll enc Tryz.prog W 0 (fun _ => true) true Tryz.f4.params.toList args.toList ds p := hA0
 rw [Tryz.params4] at hA hval
 obtain ⟨v0, vs0, d0, ds0, p0, q0, hargs, rfl, rfl, h0, r0⟩ := trodAll_cons hA
 obtain ⟨v1, vs1, d1, ds1, p1, q1, rfl, rfl, rfl, h1, r1⟩ := trodAll_cons r0
 obtain ⟨v2, vs2, d2, ds2, p2, q2, rfl, rfl, rfl, h2, r2⟩ := trodAll_cons r1
 obtain ⟨v3, vs3, d3, ds3, p3, q3, rfl, rfl, rfl, h3, r3⟩ := trodAll_cons r2
 obtain ⟨rfl, rfl, rfl⟩ := trodAll_nil r3
 obtain rfl : args = #[v0, v1, v2, v3] := by cases args; simp_all
 obtain ⟨rfl, rfl⟩ := trodVars_none hV
 obtain ⟨a0, rfl, rfl, rfl, w0⟩ := open_int Tryz.underlying44 (hval 0 44 v0 rfl rfl) h0
 obtain ⟨a1, rfl, rfl, rfl, w1⟩ := open_int Tryz.underlying3 (hval 1 3 v1 rfl rfl) h1
 obtain ⟨a2, rfl, rfl, rfl, w2⟩ := open_int Tryz.underlying3 (hval 2 3 v2 rfl rfl) h2
 obtain ⟨t, rfl, rfl, rfl, hw1⟩ := open_string Tryz.underlying9 (hval 3 9 v3 rfl rfl) h3
 clear hA0 hval0
 have hb0 : 0 <= a0 := by
  have h := w0
  simp only [Lit.wf, Bool.and_eq_true, decide_eq_true_eq, show IntKind.u16.min = 0 by decide] at h
  exact h.1
 have hb2 : -9223372036854775808 <= a2 /\ a2 <= 9223372036854775807 := by
  have h := w2
  simp only [Lit.wf, Bool.and_eq_true, decide_eq_true_eq, i64_lo, i64_hi] at h
  omega
 refine (pforms_walk a0 a1 a2 hb0 hb2.1 hb2.2 t.data.toList W (pages.tbl_of_laid hL).1 (pages.tbl_of_laid hL).2).mono fun e W' ⟨he, kp⟩ => ?_
 subst he
 have bel : Below W.heap.size W W' := kp.below (Nat.le_refl _) fun _ h => h
 exact ⟨_, rfl, _, _, _, [], _, [], hW', trodAll_mk1 (shut_bool Tryz.underlying4 _), trodAll_cons_mk (shut_int Tryz.underlying44 w0) (trodAll_cons_mk (shut_int Tryz.underlying3 w1) (trodAll_cons_mk (shut_int Tryz.underlying3 w2) (trodAll_mk1 (shut_string Tryz.underlying9 hw1)))), rfl, bel.frame _, fun h => by cases h⟩
theorem said : Rows.PagesFormSaid :=
 OpenClaim.holds_of_wide 4 Tryz.f4 rfl rfl rfl rfl rfl rfl rfl ⟨rfl, rfl, rfl, rfl, rfl⟩ rfl rfl rfl rfl rfl (by kernel_rfl) Tryz.func4 (by kernel_rfl)
  (of_decide_eq_true (by kernel_rfl)) (by unfold Func.isWrapper; first | (rw [if_pos (by decide +kernel)]; kernel_rfl) | (rw [if_neg (by decide +kernel)]; exact ⟨rfl, rfl⟩))
  (fun os started H enc _ => lifted os started H enc)
theorem proved : Rows.PagesFormCardSaid :=
 Claim7.holds_tied_plain_at .later [] [.data, .data] true (true, "1a785f4fd72d86b8b8165a7c9f660bd4dd7b48901f20bc532c6e22669a6e39a5") false
  said (fun _ h => by cases h) (by kernel_rfl) (fun _ h => by cases h) pagesForm_row_tie rfl ⟨rfl, rfl⟩ (by kernel_rfl) rfl
  (fun f fn hf hfn => by
   obtain rfl : f = 4 := Option.some.inj ((show Tryz.prog.funcNamed "armarium/armariumlaw08.PagesForm" = some 4 by kernel_rfl).symm.trans hf) |>.symm
   obtain rfl : fn = Tryz.f4 := (Option.some.inj (Tryz.func4.symm.trans hfn)).symm
   exact ⟨by kernel_rfl, fun j t ht => by
    rw [Tryz.params4] at ht
    have hm : t ∈ [44, 3, 3, 9] := by simpa using Array.mem_of_getElem? ht
    have hall : ([44, 3, 3, 9].all fun u => !Tryz.prog.wantsStandIn u) = true := by kernel_rfl
    exact (show Tryz.prog.wantsStandIn t = false by simpa using List.all_eq_true.1 hall t hm)⟩)
  (by kernel_rfl)
end Go.Proofs.YtepaeliamhjgiaaGreatDoor.pagesForm
