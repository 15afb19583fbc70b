/- The law of pages, part 4 of 55: DkAsk DkCalls DkNew. -/
import Derived.Test.YtepaeliamhjgiaaGreatDoorMu1
import Derived.Test.YtepaeliamhjgiaaGreatDoorMu3
import Derived.LoopN
import Derived.Laws.MakeOwn
set_option maxHeartbeats 16000000
set_option maxRecDepth 100000
namespace Go.Proofs.YtepaeliamhjgiaaGreatDoor
open Go.RowKit Go.Maps
section
variable {w : World} {b : Nat} {vs vw : Value} {gm : Nat} {d : Dm}
theorem ask_0 (w : World) (b : Nat) : Calls Tryz.prog 77 #[.pointer (some ⟨b, 0, none⟩), .slice none 0 0] w fun e w' => e = .returned (.int .i64 0) /\ w = w' := by
 go_enter Tryz.func77, Tryz.ntmps77
 go_wp2_with fail
 refine wp_loop_rounds 1 ?_
 rw [rounds_succ]
 go_wp2_with fail
 go_ret
 exact ⟨rfl, rfl⟩
theorem ask_p_0 (h : Dk w b vs vw gm d) (g c : Nat) (h0 : w.cell? ⟨g, 0, none⟩ = some (.func (.func 79) #[] #[])) (hp : d.power = true) :
  Calls Tryz.prog 77 #[.pointer (some ⟨b, 0, none⟩), .slice (some ⟨g, 0, none⟩) 1 c] w fun e w' => e = .returned (.int .i64 0) /\ w = w' := by
 have H := hHd h
 have k0 := powered_any h
 rw [hp] at k0
 simp only [okOr_t] at k0
 clear h hp
 go_enter Tryz.func77, Tryz.ntmps77
 go_wp2_with fail
 refine wp_loop_rounds 2 ?_
 rw [rounds_succ]
 go_wp2_with fail
 refine k0.mono ?_
 rintro e w1 ⟨rfl, rfl⟩
 clear k0
 go_wp2_with fail
 rw [rounds_succ]
 go_wp2_with fail
 go_ret
 exact ⟨rfl, rfl⟩
theorem ask_p_1 (h : Dk w b vs vw gm d) (g c : Nat) (h0 : w.cell? ⟨g, 0, none⟩ = some (.func (.func 79) #[] #[])) (hp : d.power = false) :
  Calls Tryz.prog 77 #[.pointer (some ⟨b, 0, none⟩), .slice (some ⟨g, 0, none⟩) 1 c] w fun e w' => e = .returned (.int .i64 4) /\ w = w' := by
 have H := hHd h
 have k0 := powered_any h
 rw [hp] at k0
 simp only [okOr_f] at k0
 clear h hp
 go_enter Tryz.func77, Tryz.ntmps77
 go_wp2_with fail
 refine wp_loop_rounds 2 ?_
 rw [rounds_succ]
 go_wp2_with fail
 refine k0.mono ?_
 rintro e w1 ⟨rfl, rfl⟩
 clear k0
 go_wp2_with fail
 go_ret
 exact ⟨rfl, rfl⟩
theorem ask_m_0 (h : Dk w b vs vw gm d) (a : Int) (ps : Nat) (hps : w.cell? ⟨ps, 0, none⟩ = some (.int .i64 a)) (g c : Nat) (h0 : w.cell? ⟨g, 0, none⟩ = some (.func (.func 129) #[] #[.pointer (some ⟨ps, 0, none⟩)])) (hm : decide (0 <= a) = true) :
  Calls Tryz.prog 77 #[.pointer (some ⟨b, 0, none⟩), .slice (some ⟨g, 0, none⟩) 1 c] w fun e w' => e = .returned (.int .i64 0) /\ w = w' := by
 have H := hHd h
 have k0 := acts_may a ps hps (.pointer (some ⟨b, 0, none⟩))
 rw [hm] at k0
 simp only [okOr_t] at k0
 clear h hm
 go_enter Tryz.func77, Tryz.ntmps77
 go_wp2_with fail
 refine wp_loop_rounds 2 ?_
 rw [rounds_succ]
 go_wp2_with fail
 refine k0.mono ?_
 rintro e w1 ⟨rfl, rfl⟩
 clear k0
 go_wp2_with fail
 rw [rounds_succ]
 go_wp2_with fail
 go_ret
 exact ⟨rfl, rfl⟩
theorem ask_m_1 (h : Dk w b vs vw gm d) (a : Int) (ps : Nat) (hps : w.cell? ⟨ps, 0, none⟩ = some (.int .i64 a)) (g c : Nat) (h0 : w.cell? ⟨g, 0, none⟩ = some (.func (.func 129) #[] #[.pointer (some ⟨ps, 0, none⟩)])) (hm : decide (0 <= a) = false) :
  Calls Tryz.prog 77 #[.pointer (some ⟨b, 0, none⟩), .slice (some ⟨g, 0, none⟩) 1 c] w fun e w' => e = .returned (.int .i64 2) /\ w = w' := by
 have H := hHd h
 have k0 := acts_may a ps hps (.pointer (some ⟨b, 0, none⟩))
 rw [hm] at k0
 simp only [okOr_f] at k0
 clear h hm
 go_enter Tryz.func77, Tryz.ntmps77
 go_wp2_with fail
 refine wp_loop_rounds 2 ?_
 rw [rounds_succ]
 go_wp2_with fail
 refine k0.mono ?_
 rintro e w1 ⟨rfl, rfl⟩
 clear k0
 go_wp2_with fail
 go_ret
 exact ⟨rfl, rfl⟩
theorem ask_pa_1 (h : Dk w b vs vw gm d) (g c : Nat) (h0 : w.cell? ⟨g, 0, none⟩ = some (.func (.func 79) #[] #[])) (_h1 : w.cell? ⟨g, 1, none⟩ = some (.func (.func 98) #[] #[])) (hp : d.power = false) :
  Calls Tryz.prog 77 #[.pointer (some ⟨b, 0, none⟩), .slice (some ⟨g, 0, none⟩) 2 c] w fun e w' => e = .returned (.int .i64 4) /\ w = w' := by
 have H := hHd h
 have k0 := powered_any h
 rw [hp] at k0
 simp only [okOr_f] at k0
 clear h hp
 go_enter Tryz.func77, Tryz.ntmps77
 go_wp2_with fail
 refine wp_loop_rounds 3 ?_
 rw [rounds_succ]
 go_wp2_with fail
 refine k0.mono ?_
 rintro e w1 ⟨rfl, rfl⟩
 clear k0
 go_wp2_with fail
 go_ret
 exact ⟨rfl, rfl⟩
theorem ask_pa_00 (h : Dk w b vs vw gm d) (g c : Nat) (h0 : w.cell? ⟨g, 0, none⟩ = some (.func (.func 79) #[] #[])) (h1 : w.cell? ⟨g, 1, none⟩ = some (.func (.func 98) #[] #[])) (hp : d.power = true) (ho : d.out = false) :
  Calls Tryz.prog 77 #[.pointer (some ⟨b, 0, none⟩), .slice (some ⟨g, 0, none⟩) 2 c] w fun e w' => e = .returned (.int .i64 0) /\ Dk w' b vs vw gm d.act /\ Kp (fun k => k = b) w w' := by
 have H := hHd h
 have k0 := powered_any h
 rw [hp] at k0
 simp only [okOr_t] at k0
 have HO := hHd ho
 clear h hp ho
 go_enter Tryz.func77, Tryz.ntmps77
 go_wp2_with fail
 refine wp_loop_rounds 3 ?_
 rw [rounds_succ]
 go_wp2_with fail
 refine k0.mono ?_
 rintro e w1 ⟨rfl, rfl⟩
 clear k0
 go_wp2_with fail
 rw [rounds_succ]
 go_wp2_with fail
 refine (act_ok H.out HO.out).mono ?_
 rintro e w2 ⟨rfl, hdk, hk⟩
 have HDK := hHd hdk
 have HK := hHd hk
 clear hdk hk
 go_wp2_with fail
 go_wp2_with fail
 rw [rounds_succ]
 go_wp2_with fail
 go_ret
 exact ⟨rfl, HDK.out, HK.out⟩
theorem ask_pa_01 (h : Dk w b vs vw gm d) (g c : Nat) (h0 : w.cell? ⟨g, 0, none⟩ = some (.func (.func 79) #[] #[])) (h1 : w.cell? ⟨g, 1, none⟩ = some (.func (.func 98) #[] #[])) (hp : d.power = true) (ho : d.out = true) :
  Calls Tryz.prog 77 #[.pointer (some ⟨b, 0, none⟩), .slice (some ⟨g, 0, none⟩) 2 c] w fun e w' => e = .returned (.int .i64 4) /\ Dk w' b vs (.slice none 0 0) gm (d.lose d.keep) /\ Kp (Tn b vs gm) w w' := by
 have H := hHd h
 have k0 := powered_any h
 rw [hp] at k0
 simp only [okOr_t] at k0
 have HO := hHd ho
 clear h hp ho
 go_enter Tryz.func77, Tryz.ntmps77
 go_wp2_with fail
 refine wp_loop_rounds 3 ?_
 rw [rounds_succ]
 go_wp2_with fail
 refine k0.mono ?_
 rintro e w1 ⟨rfl, rfl⟩
 clear k0
 go_wp2_with fail
 rw [rounds_succ]
 go_wp2_with fail
 refine (act_out H.out HO.out).mono ?_
 rintro e w2 ⟨rfl, hdk, hk⟩
 have HDK := hHd hdk
 have HK := hHd hk
 clear hdk hk
 go_wp2_with fail
 go_ret
 exact ⟨rfl, HDK.out, HK.out⟩
theorem ask_ps_1 (h : Dk w b vs vw gm d) (a : Int) (ps : Nat) (_hps : w.cell? ⟨ps, 0, none⟩ = some (.int .i64 a)) (g c : Nat) (h0 : w.cell? ⟨g, 0, none⟩ = some (.func (.func 79) #[] #[])) (_h1 : w.cell? ⟨g, 1, none⟩ = some (.func (.func 154) #[] #[.pointer (some ⟨ps, 0, none⟩)])) (hp : d.power = false) :
  Calls Tryz.prog 77 #[.pointer (some ⟨b, 0, none⟩), .slice (some ⟨g, 0, none⟩) 2 c] w fun e w' => e = .returned (.int .i64 4) /\ w = w' := by
 have H := hHd h
 have k0 := powered_any h
 rw [hp] at k0
 simp only [okOr_f] at k0
 clear h hp
 go_enter Tryz.func77, Tryz.ntmps77
 go_wp2_with fail
 refine wp_loop_rounds 3 ?_
 rw [rounds_succ]
 go_wp2_with fail
 refine k0.mono ?_
 rintro e w1 ⟨rfl, rfl⟩
 clear k0
 go_wp2_with fail
 go_ret
 exact ⟨rfl, rfl⟩
theorem ask_ps_01 (h : Dk w b vs vw gm d) (a : Int) (ps : Nat) (hps : w.cell? ⟨ps, 0, none⟩ = some (.int .i64 a)) (g c : Nat) (h0 : w.cell? ⟨g, 0, none⟩ = some (.func (.func 79) #[] #[])) (h1 : w.cell? ⟨g, 1, none⟩ = some (.func (.func 154) #[] #[.pointer (some ⟨ps, 0, none⟩)])) (hp : d.power = true) (hs : secB d a = false) :
  Calls Tryz.prog 77 #[.pointer (some ⟨b, 0, none⟩), .slice (some ⟨g, 0, none⟩) 2 c] w fun e w' => e = .returned (.int .i64 2) /\ ∃ n, w' = w.drewN n := by
 have H := hHd h
 have k0 := powered_any h
 rw [hp] at k0
 simp only [okOr_t] at k0
 have k1 := sector_any h a ps hps
 rw [hs] at k1
 simp only [okOr_f] at k1
 clear h hp hs
 go_enter Tryz.func77, Tryz.ntmps77
 go_wp2_with fail
 refine wp_loop_rounds 3 ?_
 rw [rounds_succ]
 go_wp2_with fail
 refine k0.mono ?_
 rintro e w1 ⟨rfl, rfl⟩
 clear k0
 go_wp2_with fail
 rw [rounds_succ]
 go_wp2_with fail
 refine k1.mono ?_
 rintro e w1 ⟨rfl, nd, rfl⟩
 clear k1
 have HD := hHd (H.out.drewN nd)
 go_wp2_with fail
 go_ret
 exact ⟨rfl, _, rfl⟩
theorem ask_ps_00 (h : Dk w b vs vw gm d) (a : Int) (ps : Nat) (hps : w.cell? ⟨ps, 0, none⟩ = some (.int .i64 a)) (g c : Nat) (h0 : w.cell? ⟨g, 0, none⟩ = some (.func (.func 79) #[] #[])) (h1 : w.cell? ⟨g, 1, none⟩ = some (.func (.func 154) #[] #[.pointer (some ⟨ps, 0, none⟩)])) (hp : d.power = true) (hs : secB d a = true) :
  Calls Tryz.prog 77 #[.pointer (some ⟨b, 0, none⟩), .slice (some ⟨g, 0, none⟩) 2 c] w fun e w' => e = .returned (.int .i64 0) /\ ∃ n, w' = w.drewN n := by
 have H := hHd h
 have k0 := powered_any h
 rw [hp] at k0
 simp only [okOr_t] at k0
 have k1 := sector_any h a ps hps
 rw [hs] at k1
 simp only [okOr_t] at k1
 clear h hp hs
 go_enter Tryz.func77, Tryz.ntmps77
 go_wp2_with fail
 refine wp_loop_rounds 3 ?_
 rw [rounds_succ]
 go_wp2_with fail
 refine k0.mono ?_
 rintro e w1 ⟨rfl, rfl⟩
 clear k0
 go_wp2_with fail
 rw [rounds_succ]
 go_wp2_with fail
 refine k1.mono ?_
 rintro e w1 ⟨rfl, nd, rfl⟩
 clear k1
 have HD := hHd (H.out.drewN nd)
 go_wp2_with fail
 go_wp2_with fail
 rw [rounds_succ]
 go_wp2_with fail
 go_ret
 exact ⟨rfl, _, rfl⟩
theorem ask_psfa_1 (h : Dk w b vs vw gm d) (a : Int) (ps : Nat) (_hps : w.cell? ⟨ps, 0, none⟩ = some (.int .i64 a)) (Ab : Option Addr) (nb cb pf : Nat) (_hpf : w.cell? ⟨pf, 0, none⟩ = some (.slice Ab nb cb)) (g c : Nat) (h0 : w.cell? ⟨g, 0, none⟩ = some (.func (.func 79) #[] #[])) (_h1 : w.cell? ⟨g, 1, none⟩ = some (.func (.func 154) #[] #[.pointer (some ⟨ps, 0, none⟩)])) (_h2 : w.cell? ⟨g, 2, none⟩ = some (.func (.func 169) #[] #[.pointer (some ⟨pf, 0, none⟩)])) (_h3 : w.cell? ⟨g, 3, none⟩ = some (.func (.func 98) #[] #[])) (hp : d.power = false) :
  Calls Tryz.prog 77 #[.pointer (some ⟨b, 0, none⟩), .slice (some ⟨g, 0, none⟩) 4 c] w fun e w' => e = .returned (.int .i64 4) /\ w = w' := by
 have H := hHd h
 have k0 := powered_any h
 rw [hp] at k0
 simp only [okOr_f] at k0
 clear h hp
 go_enter Tryz.func77, Tryz.ntmps77
 go_wp2_with fail
 refine wp_loop_rounds 5 ?_
 rw [rounds_succ]
 go_wp2_with fail
 refine k0.mono ?_
 rintro e w1 ⟨rfl, rfl⟩
 clear k0
 go_wp2_with fail
 go_ret
 exact ⟨rfl, rfl⟩
theorem ask_psfa_01 (h : Dk w b vs vw gm d) (a : Int) (ps : Nat) (hps : w.cell? ⟨ps, 0, none⟩ = some (.int .i64 a)) (Ab : Option Addr) (nb cb pf : Nat) (_hpf : w.cell? ⟨pf, 0, none⟩ = some (.slice Ab nb cb)) (g c : Nat) (h0 : w.cell? ⟨g, 0, none⟩ = some (.func (.func 79) #[] #[])) (h1 : w.cell? ⟨g, 1, none⟩ = some (.func (.func 154) #[] #[.pointer (some ⟨ps, 0, none⟩)])) (_h2 : w.cell? ⟨g, 2, none⟩ = some (.func (.func 169) #[] #[.pointer (some ⟨pf, 0, none⟩)])) (_h3 : w.cell? ⟨g, 3, none⟩ = some (.func (.func 98) #[] #[])) (hp : d.power = true) (hs : secB d a = false) :
  Calls Tryz.prog 77 #[.pointer (some ⟨b, 0, none⟩), .slice (some ⟨g, 0, none⟩) 4 c] w fun e w' => e = .returned (.int .i64 2) /\ ∃ n, w' = w.drewN n := by
 have H := hHd h
 have k0 := powered_any h
 rw [hp] at k0
 simp only [okOr_t] at k0
 have k1 := sector_any h a ps hps
 rw [hs] at k1
 simp only [okOr_f] at k1
 clear h hp hs
 go_enter Tryz.func77, Tryz.ntmps77
 go_wp2_with fail
 refine wp_loop_rounds 5 ?_
 rw [rounds_succ]
 go_wp2_with fail
 refine k0.mono ?_
 rintro e w1 ⟨rfl, rfl⟩
 clear k0
 go_wp2_with fail
 rw [rounds_succ]
 go_wp2_with fail
 refine k1.mono ?_
 rintro e w1 ⟨rfl, nd, rfl⟩
 clear k1
 have HD := hHd (H.out.drewN nd)
 go_wp2_with fail
 go_ret
 exact ⟨rfl, _, rfl⟩
theorem ask_psfa_001 (h : Dk w b vs vw gm d) (a : Int) (ps : Nat) (hps : w.cell? ⟨ps, 0, none⟩ = some (.int .i64 a)) (Ab : Option Addr) (nb cb pf : Nat) (hpf : w.cell? ⟨pf, 0, none⟩ = some (.slice Ab nb cb)) (g c : Nat) (h0 : w.cell? ⟨g, 0, none⟩ = some (.func (.func 79) #[] #[])) (h1 : w.cell? ⟨g, 1, none⟩ = some (.func (.func 154) #[] #[.pointer (some ⟨ps, 0, none⟩)])) (h2 : w.cell? ⟨g, 2, none⟩ = some (.func (.func 169) #[] #[.pointer (some ⟨pf, 0, none⟩)])) (_h3 : w.cell? ⟨g, 3, none⟩ = some (.func (.func 98) #[] #[])) (hp : d.power = true) (hs : secB d a = true) (hf : ((nb : Int) == 512) = false) :
  Calls Tryz.prog 77 #[.pointer (some ⟨b, 0, none⟩), .slice (some ⟨g, 0, none⟩) 4 c] w fun e w' => e = .returned (.int .i64 2) /\ ∃ n, w' = w.drewN n := by
 have H := hHd h
 have k0 := powered_any h
 rw [hp] at k0
 simp only [okOr_t] at k0
 have k1 := sector_any h a ps hps
 rw [hs] at k1
 simp only [okOr_t] at k1
 have HF := hHd hf
 clear h hp hs hf
 go_enter Tryz.func77, Tryz.ntmps77
 go_wp2_with fail
 refine wp_loop_rounds 5 ?_
 rw [rounds_succ]
 go_wp2_with fail
 refine k0.mono ?_
 rintro e w1 ⟨rfl, rfl⟩
 clear k0
 go_wp2_with fail
 rw [rounds_succ]
 go_wp2_with fail
 refine k1.mono ?_
 rintro e w1 ⟨rfl, nd, rfl⟩
 clear k1
 have h2 : (w.drewN nd).cell? ⟨g, 2, none⟩ = some (.func (.func 169) #[] #[.pointer (some ⟨pf, 0, none⟩)]) := h2
 have hpf : (w.drewN nd).cell? ⟨pf, 0, none⟩ = some (.slice Ab nb cb) := hpf
 have HD := hHd (H.out.drewN nd)
 go_wp2_with fail
 rw [rounds_succ]
 go_wp2_with fail
 refine (bytes_fill Ab nb cb pf hpf _).mono ?_
 rintro e w1 ⟨rfl, rfl⟩
 rw [HF.out]
 simp only [okOr_f]
 go_wp2_with fail
 go_ret
 exact ⟨rfl, _, rfl⟩
theorem ask_psfa_0000 (h : Dk w b vs vw gm d) (a : Int) (ps : Nat) (hps : w.cell? ⟨ps, 0, none⟩ = some (.int .i64 a)) (Ab : Option Addr) (nb cb pf : Nat) (hpf : w.cell? ⟨pf, 0, none⟩ = some (.slice Ab nb cb)) (g c : Nat) (h0 : w.cell? ⟨g, 0, none⟩ = some (.func (.func 79) #[] #[])) (h1 : w.cell? ⟨g, 1, none⟩ = some (.func (.func 154) #[] #[.pointer (some ⟨ps, 0, none⟩)])) (h2 : w.cell? ⟨g, 2, none⟩ = some (.func (.func 169) #[] #[.pointer (some ⟨pf, 0, none⟩)])) (h3 : w.cell? ⟨g, 3, none⟩ = some (.func (.func 98) #[] #[])) (hp : d.power = true) (hs : secB d a = true) (hf : ((nb : Int) == 512) = true) (ho : d.out = false) :
  Calls Tryz.prog 77 #[.pointer (some ⟨b, 0, none⟩), .slice (some ⟨g, 0, none⟩) 4 c] w fun e w' => e = .returned (.int .i64 0) /\ Dk w' b vs vw gm d.act /\ Kp (fun k => k = b) w w' := by
 have H := hHd h
 have k0 := powered_any h
 rw [hp] at k0
 simp only [okOr_t] at k0
 have k1 := sector_any h a ps hps
 rw [hs] at k1
 simp only [okOr_t] at k1
 have HF := hHd hf
 have HO := hHd ho
 clear h hp hs hf ho
 go_enter Tryz.func77, Tryz.ntmps77
 go_wp2_with fail
 refine wp_loop_rounds 5 ?_
 rw [rounds_succ]
 go_wp2_with fail
 refine k0.mono ?_
 rintro e w1 ⟨rfl, rfl⟩
 clear k0
 go_wp2_with fail
 rw [rounds_succ]
 go_wp2_with fail
 refine k1.mono ?_
 rintro e w1 ⟨rfl, nd, rfl⟩
 clear k1
 have h2 : (w.drewN nd).cell? ⟨g, 2, none⟩ = some (.func (.func 169) #[] #[.pointer (some ⟨pf, 0, none⟩)]) := h2
 have h3 : (w.drewN nd).cell? ⟨g, 3, none⟩ = some (.func (.func 98) #[] #[]) := h3
 have hpf : (w.drewN nd).cell? ⟨pf, 0, none⟩ = some (.slice Ab nb cb) := hpf
 have HD := hHd (H.out.drewN nd)
 go_wp2_with fail
 rw [rounds_succ]
 go_wp2_with fail
 refine (bytes_fill Ab nb cb pf hpf _).mono ?_
 rintro e w1 ⟨rfl, rfl⟩
 rw [HF.out]
 simp only [okOr_t]
 go_wp2_with fail
 rw [rounds_succ]
 go_wp2_with fail
 refine (act_ok HD.out HO.out).mono ?_
 rintro e w2 ⟨rfl, hdk, hk⟩
 have HDK := hHd hdk
 have HK := hHd (((Kp.refl _ w).drewN nd).trans hk)
 clear hdk hk
 go_wp2_with fail
 go_wp2_with fail
 rw [rounds_succ]
 go_wp2_with fail
 go_ret
 exact ⟨rfl, HDK.out, HK.out⟩
theorem ask_psfa_0001 (h : Dk w b vs vw gm d) (a : Int) (ps : Nat) (hps : w.cell? ⟨ps, 0, none⟩ = some (.int .i64 a)) (Ab : Option Addr) (nb cb pf : Nat) (hpf : w.cell? ⟨pf, 0, none⟩ = some (.slice Ab nb cb)) (g c : Nat) (h0 : w.cell? ⟨g, 0, none⟩ = some (.func (.func 79) #[] #[])) (h1 : w.cell? ⟨g, 1, none⟩ = some (.func (.func 154) #[] #[.pointer (some ⟨ps, 0, none⟩)])) (h2 : w.cell? ⟨g, 2, none⟩ = some (.func (.func 169) #[] #[.pointer (some ⟨pf, 0, none⟩)])) (h3 : w.cell? ⟨g, 3, none⟩ = some (.func (.func 98) #[] #[])) (hp : d.power = true) (hs : secB d a = true) (hf : ((nb : Int) == 512) = true) (ho : d.out = true) :
  Calls Tryz.prog 77 #[.pointer (some ⟨b, 0, none⟩), .slice (some ⟨g, 0, none⟩) 4 c] w fun e w' => e = .returned (.int .i64 4) /\ Dk w' b vs (.slice none 0 0) gm (d.lose d.keep) /\ Kp (Tn b vs gm) w w' := by
 have H := hHd h
 have k0 := powered_any h
 rw [hp] at k0
 simp only [okOr_t] at k0
 have k1 := sector_any h a ps hps
 rw [hs] at k1
 simp only [okOr_t] at k1
 have HF := hHd hf
 have HO := hHd ho
 clear h hp hs hf ho
 go_enter Tryz.func77, Tryz.ntmps77
 go_wp2_with fail
 refine wp_loop_rounds 5 ?_
 rw [rounds_succ]
 go_wp2_with fail
 refine k0.mono ?_
 rintro e w1 ⟨rfl, rfl⟩
 clear k0
 go_wp2_with fail
 rw [rounds_succ]
 go_wp2_with fail
 refine k1.mono ?_
 rintro e w1 ⟨rfl, nd, rfl⟩
 clear k1
 have h2 : (w.drewN nd).cell? ⟨g, 2, none⟩ = some (.func (.func 169) #[] #[.pointer (some ⟨pf, 0, none⟩)]) := h2
 have h3 : (w.drewN nd).cell? ⟨g, 3, none⟩ = some (.func (.func 98) #[] #[]) := h3
 have hpf : (w.drewN nd).cell? ⟨pf, 0, none⟩ = some (.slice Ab nb cb) := hpf
 have HD := hHd (H.out.drewN nd)
 go_wp2_with fail
 rw [rounds_succ]
 go_wp2_with fail
 refine (bytes_fill Ab nb cb pf hpf _).mono ?_
 rintro e w1 ⟨rfl, rfl⟩
 rw [HF.out]
 simp only [okOr_t]
 go_wp2_with fail
 rw [rounds_succ]
 go_wp2_with fail
 refine (act_out HD.out HO.out).mono ?_
 rintro e w2 ⟨rfl, hdk, hk⟩
 have HDK := hHd hdk
 have HK := hHd (((Kp.refl _ w).drewN nd).trans hk)
 clear hdk hk
 go_wp2_with fail
 go_ret
 exact ⟨rfl, HDK.out, HK.out⟩
end
def Dm.flushS (d : Dm) : Dm × Int := if !d.power then (d, 4) else if d.out then (d.lose d.keep, 4) else (d.act.all, 0)
def Dm.crashS (d : Dm) (k : List UInt8) : Dm × Int := if !d.power then (d, 4) else (d.lose k, 0)
def Dm.startS (d : Dm) : Dm := { d with power := true }
def Dm.fuseS (d : Dm) (n : Int) (k : List UInt8) : Dm × Int := if decide (0 <= n) then ({ d with lit := true, left := n.toNat, keep := k }, 0) else (d, 2)
theorem Kp.of_false {S : Nat -> Prop} {w w' : World} (h : Kp (fun _ => False) w w') : Kp S w w' := h.mono fun _ _ h => h.elim
theorem Dsk.still {F : Nat -> Prop} {w w' : World} {b : Nat} {d : Dm} (h : Dsk F w b d) (hk : Kp (fun _ => False) w w') : Dsk F w' b d := h.kp hk fun _ _ h => h
theorem Dk.still {w w' : World} {b : Nat} {vs vw : Value} {gm : Nat} {d : Dm} (h : Dk w b vs vw gm d) (hk : Kp (fun _ => False) w w') : Dk w' b vs vw gm d := h.kp hk fun _ _ h => h
section
variable {w : World} {b : Nat} {vs vw : Value} {gm : Nat} {d : Dm} {F : Nat -> Prop}
theorem sub_lose {F : Nat -> Prop} {b : Nat} {vs vw : Value} {gm : Nat} (h : ∀ k, Ft b vs vw gm k -> F k) : ∀ k, Ft b vs (.slice none 0 0) gm k -> F k := by
 rintro k (e | e | e | e)
 ·exact h k (.inl e)
 ·exact h k (.inr (.inl e))
 ·simp [Value.ownBlock] at e
 ·exact h k (.inr (.inr (.inr e)))
theorem sub_tn {F : Nat -> Prop} {b : Nat} {vs vw : Value} {gm : Nat} (h : ∀ k, Ft b vs vw gm k -> F k) : ∀ k, Tn b vs gm k -> F k := by
 rintro k (e | e | e)
 ·exact h k (.inl e)
 ·exact h k (.inr (.inl e))
 ·exact h k (.inr (.inr (.inr e)))
theorem flush_any (hD : Dsk F w b d) :
  Calls Tryz.prog 47 #[.pointer (some ⟨b, 0, none⟩)] w fun e w' => e = .returned (.int .i64 d.flushS.2) /\ Dsk F w' b d.flushS.1 /\ Kp F w w' := by
 obtain ⟨vs, vw, gm, h, hsub⟩ := hD
 have hx : d.flushS = if !d.power then (d, 4) else if d.out then (d.lose d.keep, 4) else (d.act.all, 0) := rfl
 have HD := hHd (show Dsk F w b d from ⟨vs, vw, gm, h, hsub⟩)
 have HS := hHd hsub
 have h2 : Dk (w.alloc (.cells #[.func (.func 79) #[] #[], .func (.func 98) #[] #[]] 116)) b vs vw gm d := h.alloc _
 have hbn := Box.new w 116 #[.func (.func 79) #[] #[], .func (.func 98) #[] #[]]
 have ka : Kp F w (w.alloc (.cells #[.func (.func 79) #[] #[], .func (.func 98) #[] #[]] 116)) := (Kp.refl F w).alloc _
 clear h hsub
 rcases hp : d.power with _ | _
 ·have kk := ask_pa_1 h2 w.heap.size 2 (hbn.cell 0) (hbn.cell 1) hp
  rw [hp] at hx
  have HX := hHd hx
  have KA := hHd ka
  have H2 := hHd h2
  clear hx ka h2 hbn
  go_enter Tryz.func47, Tryz.ntmps47
  go_wp2_with fail
  refine kk.mono ?_
  rintro e w1 ⟨rfl, rfl⟩
  clear kk
  go_wp2_with fail
  go_ret
  rw [HX.out]
  exact ⟨rfl, ⟨vs, vw, gm, H2.out, HS.out⟩, KA.out⟩
 ·rcases ho : d.out with _ | _
  ·have kk := ask_pa_00 h2 w.heap.size 2 (hbn.cell 0) (hbn.cell 1) hp ho
   rw [hp, ho] at hx
   have HX := hHd hx
   have KA := hHd ka
   clear hx ka h2 hbn
   go_enter Tryz.func47, Tryz.ntmps47
   go_wp2_with fail
   refine kk.mono ?_
   rintro e w1 ⟨rfl, h3, k3⟩
   have H3 := hHd h3
   have K3 := hHd (KA.out.trans (k3.mono fun k _ e => HS.out k (.inl e)))
   clear kk h3 k3
   go_wp2_with fail
   refine (settle_all H3.out).mono ?_
   rintro e w2 ⟨rfl, h4, k4⟩
   have H4 := hHd h4
   have K4 := hHd (K3.out.trans (k4.mono fun k _ e => sub_tn HS.out k e))
   clear h4 k4
   go_wp2_with fail
   go_ret
   rw [HX.out]
   exact ⟨rfl, ⟨vs, _, gm, H4.out, sub_lose HS.out⟩, K4.out⟩
  ·have kk := ask_pa_01 h2 w.heap.size 2 (hbn.cell 0) (hbn.cell 1) hp ho
   rw [hp, ho] at hx
   have HX := hHd hx
   have KA := hHd ka
   clear hx ka h2 hbn
   go_enter Tryz.func47, Tryz.ntmps47
   go_wp2_with fail
   refine kk.mono ?_
   rintro e w1 ⟨rfl, h3, k3⟩
   have H3 := hHd h3
   have K3 := hHd (KA.out.trans (k3.mono fun k _ e => sub_tn HS.out k e))
   clear kk h3 k3
   go_wp2_with fail
   go_ret
   rw [HX.out]
   exact ⟨rfl, ⟨vs, _, gm, H3.out, sub_lose HS.out⟩, K3.out⟩
theorem crash_any (hD : Dsk F w b d) (l : List UInt8) (hl : l.length <= maxLen) :
  Calls Tryz.prog 28 #[.pointer (some ⟨b, 0, none⟩), .string ⟨l.toArray⟩] w fun e w' => e = .returned (.int .i64 (d.crashS l).2) /\ Dsk F w' b (d.crashS l).1 /\ Kp F w w' := by
 obtain ⟨vs, vw, gm, h, hsub⟩ := hD
 have hx : d.crashS l = if !d.power then (d, 4) else (d.lose l, 0) := rfl
 have HS := hHd hsub
 have h2 : Dk (w.alloc (.cells #[.func (.func 79) #[] #[]] 116)) b vs vw gm d := h.alloc _
 have hbn := Box.new w 116 #[.func (.func 79) #[] #[]]
 have ka : Kp F w (w.alloc (.cells #[.func (.func 79) #[] #[]] 116)) := (Kp.refl F w).alloc _
 clear h hsub
 rcases hp : d.power with _ | _
 ·have kk := ask_p_1 h2 w.heap.size 1 (hbn.cell 0) hp
  rw [hp] at hx
  have HX := hHd hx
  have KA := hHd ka
  have H2 := hHd h2
  clear hx ka h2 hbn
  go_enter Tryz.func28, Tryz.ntmps28
  go_wp2_with fail
  refine kk.mono ?_
  rintro e w1 ⟨rfl, rfl⟩
  clear kk
  go_wp2_with fail
  go_ret
  rw [HX.out]
  exact ⟨rfl, ⟨vs, vw, gm, H2.out, HS.out⟩, KA.out⟩
 ·have kk := ask_p_0 h2 w.heap.size 1 (hbn.cell 0) hp
  rw [hp] at hx
  have HX := hHd hx
  have KA := hHd ka
  have H2 := hHd h2
  clear hx ka h2 hbn
  go_enter Tryz.func28, Tryz.ntmps28
  go_wp2_with fail
  refine kk.mono ?_
  rintro e w1 ⟨rfl, rfl⟩
  clear kk
  go_wp2_with fail
  refine (lose_any H2.out l hl).mono ?_
  rintro e w2 ⟨rfl, h4, k4⟩
  have H4 := hHd h4
  have K4 := hHd (KA.out.trans (k4.mono fun k _ e => sub_tn HS.out k e))
  clear h4 k4
  go_wp2_with fail
  go_ret
  rw [HX.out]
  exact ⟨rfl, ⟨vs, _, gm, H4.out, sub_lose HS.out⟩, K4.out⟩
theorem start_any (hD : Dsk F w b d) :
  Calls Tryz.prog 81 #[.pointer (some ⟨b, 0, none⟩)] w fun e w' => e = .returned (.int .i64 0) /\ Dsk F w' b d.startS /\ Kp F w w' := by
 obtain ⟨vs, vw, gm, h, hsub⟩ := hD
 have HS := hHd hsub
 have e3 := h.c3
 have f3 := h.box.free 3
 have H := hHd h
 clear h hsub
 go_enter Tryz.func81, Tryz.ntmps81
 go_wp2_with fail
 refine (ask_0 w b).mono ?_
 rintro e w1 ⟨rfl, rfl⟩
 go_wp2_with fail
 go_ret
 have hb := H.out.box.put 3 (.bool true)
 have ok := H.out.ok
 exact ⟨rfl, ⟨vs, vw, gm, H.out.turn (d' := d.startS) ⟨ok.few, ok.some, ok.each, ok.at_, ok.long, ok.waits, ok.left_, ok.acts_, ok.keep_⟩ hb rfl rfl (Kp.one _ _ _ _), HS.out⟩, (Kp.one w b 3 _).mono fun k _ e => HS.out k (.inl e)⟩
theorem fuse_any (hD : Dsk F w b d) (a : Int) (ha : a < 9223372036854775808) (l : List UInt8) (hl : l.length <= maxLen) :
  Calls Tryz.prog 27 #[.pointer (some ⟨b, 0, none⟩), .int .i64 a, .string ⟨l.toArray⟩] w fun e w' => e = .returned (.int .i64 (d.fuseS a l).2) /\ Dsk F w' b (d.fuseS a l).1 /\ Kp F w w' := by
 obtain ⟨vs, vw, gm, h, hsub⟩ := hD
 have hx : d.fuseS a l = if decide (0 <= a) then ({ d with lit := true, left := a.toNat, keep := l }, 0) else (d, 2) := rfl
 have HS := hHd hsub
 have h2 : Dk ((w.alloc (.cells #[.int .i64 a] 3)).alloc (.cells #[.func (.func 129) #[] #[.pointer (some ⟨w.heap.size, 0, none⟩)]] 116)) b vs vw gm d := (h.alloc _).alloc _
 have hba := (Box.new w 3 #[.int .i64 a]).alloc (.cells #[.func (.func 129) #[] #[.pointer (some ⟨w.heap.size, 0, none⟩)]] 116)
 have hbn := Box.new (w.alloc (.cells #[.int .i64 a] 3)) 116 #[.func (.func 129) #[] #[.pointer (some ⟨w.heap.size, 0, none⟩)]]
 rw [World.size_alloc] at hbn
 have ka : Kp F w ((w.alloc (.cells #[.int .i64 a] 3)).alloc (.cells #[.func (.func 129) #[] #[.pointer (some ⟨w.heap.size, 0, none⟩)]] 116)) := ((Kp.refl F w).alloc _).alloc _
 clear h hsub
 rcases hp : decide (0 <= a) with _ | _
 ·have kk := ask_m_1 h2 a w.heap.size (hba.cell 0) (w.heap.size + 1) 1 (hbn.cell 0) hp
  rw [hp] at hx
  have HX := hHd hx
  have KA := hHd ka
  have H2 := hHd h2
  clear hx ka h2 hbn hba hp
  go_enter Tryz.func27, Tryz.ntmps27
  go_wp2_with fail
  refine (actsMayBe_any _ _).mono ?_
  rintro e w1 ⟨rfl, rfl⟩
  go_wp2_with fail
  refine kk.mono ?_
  rintro e w1 ⟨rfl, rfl⟩
  clear kk
  go_wp2_with fail
  go_ret
  rw [HX.out]
  exact ⟨rfl, ⟨vs, vw, gm, H2.out, HS.out⟩, KA.out⟩
 ·have kk := ask_m_0 h2 a w.heap.size (hba.cell 0) (w.heap.size + 1) 1 (hbn.cell 0) hp
  have ha0 : 0 <= a := by simpa using hp
  have e4 := h2.c4
  have e5 := h2.c5
  have e6 := h2.c6
  have f4 := h2.box.free 4
  have f5 := h2.box.free 5
  have f6 := h2.box.free 6
  rw [hp] at hx
  have HX := hHd hx
  have KA := hHd ka
  have H2 := hHd h2
  clear hx ka h2 hbn hba hp
  go_enter Tryz.func27, Tryz.ntmps27
  go_wp2_with fail
  refine (actsMayBe_any _ _).mono ?_
  rintro e w1 ⟨rfl, rfl⟩
  go_wp2_with fail
  refine kk.mono ?_
  rintro e w1 ⟨rfl, rfl⟩
  clear kk
  generalize hW : ((w.alloc (.cells #[.int .i64 a] 3)).alloc (.cells #[.func (.func 129) #[] #[.pointer (some ⟨w.heap.size, 0, none⟩)]] 116)) = W at *
  clear hW
  go_wp2_with fail
  go_ret
  rw [HX.out]
  have ok := H2.out.ok
  have hb := ((H2.out.box.put 4 (.bool true)).put 5 (.int .i64 a)).put 6 (.string ⟨l.toArray⟩)
  have k3 : Kp (fun k => k = b) W _ := (((Kp.refl (fun k => k = b) W).setCell (p := ⟨b, 4, none⟩) (.inr rfl) (.bool true)).setCell (p := ⟨b, 5, none⟩) (.inr rfl) (.int .i64 a)).setCell (p := ⟨b, 6, none⟩) (.inr rfl) (.string ⟨l.toArray⟩)
  refine ⟨rfl, ⟨vs, vw, gm, H2.out.turn (d' := { d with lit := true, left := a.toNat, keep := l }) ⟨ok.few, ok.some, ok.each, ok.at_, ok.long, ok.waits, by dsimp only; omega, ok.acts_, hl⟩ ?_ rfl rfl k3, HS.out⟩, KA.out.trans (k3.mono fun k _ e => HS.out k (.inl e))⟩
  have e : dcs { d with lit := true, left := a.toNat, keep := l } vs vw gm = (((dcs d vs vw gm).setIfInBounds 4 (.bool true)).setIfInBounds 5 (.int .i64 a)).setIfInBounds 6 (.string ⟨l.toArray⟩) := by
   have hc : ((a.toNat : Nat) : Int) = a := by omega
   simp [dcs, hc]
  rw [e]
  exact hb
theorem alive_any (hD : Dsk F w b d) : Calls Tryz.prog 29 #[.pointer (some ⟨b, 0, none⟩)] w fun e w' => e = .returned (.bool d.power) /\ w = w' := by
 obtain ⟨vs, vw, gm, h, hsub⟩ := hD
 have e3 := h.c3
 clear h hsub
 go_enter Tryz.func29, Tryz.ntmps29
 go_wp2_with fail
 go_ret
 exact ⟨rfl, rfl⟩
theorem len_any (hD : Dsk F w b d) : Calls Tryz.prog 53 #[.pointer (some ⟨b, 0, none⟩)] w fun e w' => e = .returned (.int .i64 d.on.length) /\ w = w' := by
 obtain ⟨vs, vw, gm, h, hsub⟩ := hD
 have e0 := h.c0
 obtain ⟨gs, cap, hv, _⟩ := h.st_form
 rw [hv] at e0
 clear h hsub hv
 go_enter Tryz.func53, Tryz.ntmps53
 go_wp2_with fail
 go_ret
 exact ⟨rfl, rfl⟩
end
def zsec : List UInt8 := List.replicate 512 0
theorem zsec_length : zsec.length = 512 := List.length_replicate
theorem bcs_rep (n : Nat) (x : UInt8) : bcs (List.replicate n x) = List.replicate n (.int .u8 x.toNat) := by simp [bcs]
theorem bcs_zsec : bcs zsec = List.replicate 512 (.int .u8 0) := bcs_rep 512 0
theorem dmade_rep (k m : Nat) (hk : 0 < k) (z : Value) : madeCells (List.replicate k z).toArray m = (List.replicate m z).toArray := by
 apply Array.ext
 ·simp [madeCells]
 ·intro i h1 h2
  have hm : i % k < (List.replicate k z).toArray.size := by simpa using Nat.mod_lt i hk
  have e : (List.replicate k z).toArray[i % (List.replicate k z).toArray.size]! = z := by
   rw [show (List.replicate k z).toArray.size = k by simp]
   rw [getElem!_pos (List.replicate k z).toArray (i % k) hm]
   simp
  simp only [madeCells, Array.getElem_map, Array.getElem_range, e]
  simp
def disZ : Value -> Bool
 |.int .u8 n => n == 0
 |_ => false
theorem isZ_eq {v : Value} (h : disZ v = true) : v = .int .u8 0 := by
 unfold disZ at h
 split at h
 ·next n => rw [eq_of_beq h]
 ·cases h
theorem secInfo : ∃ i, Tryz.prog.info? 156 = some i /\ i.zero = some (.agg (bcs zsec).toArray) /\ i.size = 512 /\ i.bytes = 512 := by
 have h : (match Tryz.prog.info? 156 with | some i => (match i.zero with | some (.agg cs) => cs.toList.length == 512 && i.size == 512 && i.bytes == 512 && cs.toList.all disZ | _ => false) | none => false) = true := by kernel_rfl
 cases hi : Tryz.prog.info? 156 with
 |none => rw [hi] at h; cases h
 |some i =>
  rw [hi] at h
  dsimp only at h
  split at h
  ·next cs hz =>
   simp only [Bool.and_eq_true, beq_iff_eq] at h
   obtain ⟨⟨⟨h1, h2⟩, h3⟩, h4⟩ := h
   refine ⟨i, rfl, ?_, h2, h3⟩
   rw [hz]
   congr 2
   apply Array.toList_inj.1
   rw [List.toList_toArray]
   rw [bcs_zsec, List.eq_replicate_iff]
   exact ⟨h1, fun v hv => isZ_eq (List.all_eq_true.1 h4 v hv)⟩
  ·cases h
theorem onCells_zero (n : Nat) : onCells (List.replicate n zsec) = List.replicate (n * 512) (.int .u8 0) := by
 induction n with
 |zero => rfl
 |succ n ih =>
  show bcs zsec ++ onCells (List.replicate n zsec) = _
  rw [ih, bcs_zsec, List.replicate_append_replicate]
  congr 1; omega
theorem made_zero (n : Nat) : madeCells (bcs zsec).toArray (n * 512) = (onCells (List.replicate n zsec)).toArray := by
 rw [onCells_zero, bcs_zsec, dmade_rep _ _ (by decide)]
def newDm (n : Nat) : Dm := ⟨List.replicate n zsec, [], true, false, 0, [], 0⟩
theorem newDm_ok (n : Nat) (h1 : 1 <= n) (h2 : n <= 4096) : (newDm n).ok :=
 ⟨by simpa [newDm] using h2, by simpa [newDm] using h1, fun s hs => by rw [(List.mem_replicate.1 hs).2, zsec_length], by simp [newDm], by simp [newDm], by simp [newDm], by simp [newDm], by simp [newDm], by simp [newDm]⟩
theorem dnew_any (n : Nat) (h1 : 1 <= n) (h2 : n <= 4096) (w : World) :
  Calls Tryz.prog 13 #[.int .i64 n] w fun e w' => ∃ b, e = .returned (.tuple #[.pointer (some ⟨b, 0, none⟩), .int .i64 0]) /\ Dsk (fun k => w.heap.size <= k) w' b (newDm n) /\ Kp (fun _ => False) w w' := by
 obtain ⟨i, i1, i2, i3, i4⟩ := secInfo
 have hmk : (Instr.makeSlice 91 (.int .i64 n) (.int .i64 n)).run Tryz.prog w = .ok (.slice (some ⟨w.heap.size, 0, none⟩) n n) (w.alloc (.cells (onCells (List.replicate n zsec)).toArray 156)) := by
  have := run_make (P := Tryz.prog) w 91 _ i _ Tryz.underlying91 i1 i2 .i64 .i64 n n (by omega) (by omega) (by rw [i4]; omega) (by omega)
  rw [i3] at this
  simpa [Value.cells, made_zero] using this
 have hmm := @run_makeMap Tryz.prog
 have hn1 : ¬ ((n : Int) < 1) := by omega
 have hn2 : ¬ ((4096 : Int) < n) := by omega
 clear i1 i2 i3 i4
 go_enter Tryz.func13, Tryz.ntmps13
 go_wp2_with fail
 go_ret2
 have hb0 := ((Box.new w 156 (onCells (List.replicate n zsec)).toArray).alloc (.map #[] 0))
 have k0 : Kp (fun _ => False) w ((w.alloc (.cells (onCells (List.replicate n zsec)).toArray 156)).alloc (.map #[] 0)) := ((Kp.refl (fun _ => False) w).alloc _).alloc _
 have hm0 : Nm ((w.alloc (.cells (onCells (List.replicate n zsec)).toArray 156)).alloc (.map #[] 0)) (w.heap.size + 1) [] := by
  have := World.ownsMap_made (w.alloc (.cells (onCells (List.replicate n zsec)).toArray 156)) Tryz.prog 3 (plainElem (H := Unit) Tryz.prog 3)
  rw [World.size_alloc] at this
  exact ⟨0, _, this, Nat.le_refl _, fun a => ⟨rfl, fun i hi => by simp [lastOf] at hi⟩⟩
 have hst : ((w.alloc (.cells (onCells (List.replicate n zsec)).toArray 156)).alloc (.map #[] 0)).ownsRow 0 156 512 (.slice (some ⟨w.heap.size, 0, none⟩) n n) n (onCells (List.replicate n zsec)) := by
  have hl : (onCells (List.replicate n zsec)).length = n * 512 := by rw [onCells_zero, List.length_replicate]
  refine ⟨hl, .inr ⟨w.heap.size, n, _, rfl, Nat.zero_le _, hb0, Nat.le_refl _, by simp only [maxLen]; omega, by simpa using hl, ?_⟩⟩
  rw [List.toList_toArray, List.take_of_length_le (by omega)]
 generalize hW : (w.alloc (.cells (onCells (List.replicate n zsec)).toArray 156)).alloc (.map #[] 0) = W at *
 have hsz : W.heap.size = w.heap.size + 2 := by rw [<- hW]; simp
 have hbd := Box.new W 97 (dcs (newDm n) (.slice (some ⟨w.heap.size, 0, none⟩) n n) (.slice none 0 0) (w.heap.size + 1))
 have kd : Kp (fun _ => False) W (W.alloc (.cells (dcs (newDm n) (.slice (some ⟨w.heap.size, 0, none⟩) n n) (.slice none 0 0) (w.heap.size + 1)) 97)) := (Kp.refl _ W).alloc _
 refine ⟨W.heap.size, ?_, ⟨.slice (some ⟨w.heap.size, 0, none⟩) n n, .slice none 0 0, w.heap.size + 1, ⟨newDm_ok n h1 h2, hbd, ?_, World.ownsRow_nil _ _ _ _, hm0.kp kd (fun h => h)⟩, ?_⟩, k0.trans kd⟩
 ·rw [hsz]; rfl
 ·have hst2 := down_kp hst kd (fun _ _ h => h)
  have e : (newDm n).on.length = n := by simp [newDm]
  rw [e]
  exact hst2
 ·rintro k (rfl | e | e | rfl)
  ·show _ <= _; omega
  ·simp [Value.ownBlock] at e; show _ <= _; omega
  ·simp [Value.ownBlock] at e
  ·show _ <= _; omega
end Go.Proofs.YtepaeliamhjgiaaGreatDoor
