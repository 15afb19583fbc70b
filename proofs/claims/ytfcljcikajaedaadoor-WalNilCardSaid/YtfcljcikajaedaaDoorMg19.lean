/- What is asked ahead of a call. No condition but the disk's own. -/
import Derived.Test.YtfcljcikajaedaaDoorMg18
import Derived.LoopN
namespace Go.Proofs.YtfcljcikajaedaaDoor
open Go.RowKit Go.Maps

theorem ask_nil (w : World) (A : Option Addr) (n c : Nat) : Calls Tryd.prog 38 #[.pointer none, .slice A n c] w fun e w' => e = .returned (.int .i64 1) ∧ w = w' := by
  go_enter Tryd.func38, Tryd.ntmps38
  go_wp2
  go_ret
  exact ⟨rfl, rfl⟩
section
variable {w : World} {b : Nat} {vs vw : Value} {gm : Nat} {d : Dm}
theorem ask_0 (w : World) (b : Nat) : Calls Tryd.prog 38 #[.pointer (some ⟨b, 0, none⟩), .slice none 0 0] w fun e w' => e = .returned (.int .i64 0) ∧ w = w' := by
  go_enter Tryd.func38, Tryd.ntmps38
  go_wp2_with fail
  refine wp_loop_rounds 1 ?_
  rw [rounds_succ]
  go_wp2_with fail
  go_ret
  exact ⟨rfl, rfl⟩
set_option maxHeartbeats 2000000 in
theorem ask_p_0 (h : Dk w b vs vw gm d) (g c : Nat) (h0 : w.cell? ⟨g, 0, none⟩ = some (.func (.func 39) #[] #[])) (hp : d.power = true) :
    Calls Tryd.prog 38 #[.pointer (some ⟨b, 0, none⟩), .slice (some ⟨g, 0, none⟩) 1 c] w fun e w' => e = .returned (.int .i64 0) ∧ w = w' := by
  have H := Lib.hid h
  have k0 := powered_any h
  rw [hp] at k0
  simp only [okOr_t] at k0
  clear h hp
  go_enter Tryd.func38, Tryd.ntmps38
  go_wp2_with fail
  refine wp_loop_rounds 2 ?_
  rw [rounds_succ]
  go_wp2_with fail
  refine k0.mono ?_
  rintro e w1 ⟨rfl, rfl⟩
  clear k0
  go_wp2_with fail
  rw [rounds_succ]
  go_wp2_with fail
  go_ret
  exact ⟨rfl, rfl⟩
set_option maxHeartbeats 2000000 in
theorem ask_p_1 (h : Dk w b vs vw gm d) (g c : Nat) (h0 : w.cell? ⟨g, 0, none⟩ = some (.func (.func 39) #[] #[])) (hp : d.power = false) :
    Calls Tryd.prog 38 #[.pointer (some ⟨b, 0, none⟩), .slice (some ⟨g, 0, none⟩) 1 c] w fun e w' => e = .returned (.int .i64 4) ∧ w = w' := by
  have H := Lib.hid h
  have k0 := powered_any h
  rw [hp] at k0
  simp only [okOr_f] at k0
  clear h hp
  go_enter Tryd.func38, Tryd.ntmps38
  go_wp2_with fail
  refine wp_loop_rounds 2 ?_
  rw [rounds_succ]
  go_wp2_with fail
  refine k0.mono ?_
  rintro e w1 ⟨rfl, rfl⟩
  clear k0
  go_wp2_with fail
  go_ret
  exact ⟨rfl, rfl⟩
set_option maxHeartbeats 2000000 in
theorem ask_s_0 (h : Dk w b vs vw gm d) (a : Int) (ps : Nat) (hps : w.cell? ⟨ps, 0, none⟩ = some (.int .i64 a)) (g c : Nat) (h0 : w.cell? ⟨g, 0, none⟩ = some (.func (.func 62) #[] #[.pointer (some ⟨ps, 0, none⟩)])) (hs : secB d a = true) :
    Calls Tryd.prog 38 #[.pointer (some ⟨b, 0, none⟩), .slice (some ⟨g, 0, none⟩) 1 c] w fun e w' => e = .returned (.int .i64 0) ∧ ∃ n, w' = w.drewN n := by
  have H := Lib.hid h
  have k0 := sector_any h a ps hps
  rw [hs] at k0
  simp only [okOr_t] at k0
  clear h hs
  go_enter Tryd.func38, Tryd.ntmps38
  go_wp2_with fail
  refine wp_loop_rounds 2 ?_
  rw [rounds_succ]
  go_wp2_with fail
  refine k0.mono ?_
  rintro e w1 ⟨rfl, nd, rfl⟩
  clear k0
  have HD := Lib.hid (H.out.drewN nd)
  go_wp2_with fail
  rw [rounds_succ]
  go_wp2_with fail
  go_ret
  exact ⟨rfl, _, rfl⟩
set_option maxHeartbeats 2000000 in
theorem ask_s_1 (h : Dk w b vs vw gm d) (a : Int) (ps : Nat) (hps : w.cell? ⟨ps, 0, none⟩ = some (.int .i64 a)) (g c : Nat) (h0 : w.cell? ⟨g, 0, none⟩ = some (.func (.func 62) #[] #[.pointer (some ⟨ps, 0, none⟩)])) (hs : secB d a = false) :
    Calls Tryd.prog 38 #[.pointer (some ⟨b, 0, none⟩), .slice (some ⟨g, 0, none⟩) 1 c] w fun e w' => e = .returned (.int .i64 2) ∧ ∃ n, w' = w.drewN n := by
  have H := Lib.hid h
  have k0 := sector_any h a ps hps
  rw [hs] at k0
  simp only [okOr_f] at k0
  clear h hs
  go_enter Tryd.func38, Tryd.ntmps38
  go_wp2_with fail
  refine wp_loop_rounds 2 ?_
  rw [rounds_succ]
  go_wp2_with fail
  refine k0.mono ?_
  rintro e w1 ⟨rfl, nd, rfl⟩
  clear k0
  have HD := Lib.hid (H.out.drewN nd)
  go_wp2_with fail
  go_ret
  exact ⟨rfl, _, rfl⟩
set_option maxHeartbeats 2000000 in
theorem ask_pa_1 (h : Dk w b vs vw gm d) (g c : Nat) (h0 : w.cell? ⟨g, 0, none⟩ = some (.func (.func 39) #[] #[])) (_h1 : w.cell? ⟨g, 1, none⟩ = some (.func (.func 49) #[] #[])) (hp : d.power = false) :
    Calls Tryd.prog 38 #[.pointer (some ⟨b, 0, none⟩), .slice (some ⟨g, 0, none⟩) 2 c] w fun e w' => e = .returned (.int .i64 4) ∧ w = w' := by
  have H := Lib.hid h
  have k0 := powered_any h
  rw [hp] at k0
  simp only [okOr_f] at k0
  clear h hp
  go_enter Tryd.func38, Tryd.ntmps38
  go_wp2_with fail
  refine wp_loop_rounds 3 ?_
  rw [rounds_succ]
  go_wp2_with fail
  refine k0.mono ?_
  rintro e w1 ⟨rfl, rfl⟩
  clear k0
  go_wp2_with fail
  go_ret
  exact ⟨rfl, rfl⟩
set_option maxHeartbeats 2000000 in
theorem ask_pa_00 (h : Dk w b vs vw gm d) (g c : Nat) (h0 : w.cell? ⟨g, 0, none⟩ = some (.func (.func 39) #[] #[])) (h1 : w.cell? ⟨g, 1, none⟩ = some (.func (.func 49) #[] #[])) (hp : d.power = true) (ho : d.out = false) :
    Calls Tryd.prog 38 #[.pointer (some ⟨b, 0, none⟩), .slice (some ⟨g, 0, none⟩) 2 c] w fun e w' => e = .returned (.int .i64 0) ∧ Dk w' b vs vw gm d.act ∧ Kp (fun k => k = b) w w' := by
  have H := Lib.hid h
  have k0 := powered_any h
  rw [hp] at k0
  simp only [okOr_t] at k0
  have HO := Lib.hid ho
  clear h hp ho
  go_enter Tryd.func38, Tryd.ntmps38
  go_wp2_with fail
  refine wp_loop_rounds 3 ?_
  rw [rounds_succ]
  go_wp2_with fail
  refine k0.mono ?_
  rintro e w1 ⟨rfl, rfl⟩
  clear k0
  go_wp2_with fail
  rw [rounds_succ]
  go_wp2_with fail
  refine (act_ok H.out HO.out).mono ?_
  rintro e w2 ⟨rfl, hdk, hk⟩
  have HDK := Lib.hid hdk
  have HK := Lib.hid hk
  clear hdk hk
  go_wp2_with fail
  go_wp2_with fail
  rw [rounds_succ]
  go_wp2_with fail
  go_ret
  exact ⟨rfl, HDK.out, HK.out⟩
set_option maxHeartbeats 2000000 in
theorem ask_pa_01 (h : Dk w b vs vw gm d) (g c : Nat) (h0 : w.cell? ⟨g, 0, none⟩ = some (.func (.func 39) #[] #[])) (h1 : w.cell? ⟨g, 1, none⟩ = some (.func (.func 49) #[] #[])) (hp : d.power = true) (ho : d.out = true) :
    Calls Tryd.prog 38 #[.pointer (some ⟨b, 0, none⟩), .slice (some ⟨g, 0, none⟩) 2 c] w fun e w' => e = .returned (.int .i64 4) ∧ Dk w' b vs (.slice none 0 0) gm (d.lose d.keep) ∧ Kp (Tn b vs gm) w w' := by
  have H := Lib.hid h
  have k0 := powered_any h
  rw [hp] at k0
  simp only [okOr_t] at k0
  have HO := Lib.hid ho
  clear h hp ho
  go_enter Tryd.func38, Tryd.ntmps38
  go_wp2_with fail
  refine wp_loop_rounds 3 ?_
  rw [rounds_succ]
  go_wp2_with fail
  refine k0.mono ?_
  rintro e w1 ⟨rfl, rfl⟩
  clear k0
  go_wp2_with fail
  rw [rounds_succ]
  go_wp2_with fail
  refine (act_out H.out HO.out).mono ?_
  rintro e w2 ⟨rfl, hdk, hk⟩
  have HDK := Lib.hid hdk
  have HK := Lib.hid hk
  clear hdk hk
  go_wp2_with fail
  go_ret
  exact ⟨rfl, HDK.out, HK.out⟩
set_option maxHeartbeats 2000000 in
theorem ask_ps_1 (h : Dk w b vs vw gm d) (a : Int) (ps : Nat) (_hps : w.cell? ⟨ps, 0, none⟩ = some (.int .i64 a)) (g c : Nat) (h0 : w.cell? ⟨g, 0, none⟩ = some (.func (.func 39) #[] #[])) (_h1 : w.cell? ⟨g, 1, none⟩ = some (.func (.func 62) #[] #[.pointer (some ⟨ps, 0, none⟩)])) (hp : d.power = false) :
    Calls Tryd.prog 38 #[.pointer (some ⟨b, 0, none⟩), .slice (some ⟨g, 0, none⟩) 2 c] w fun e w' => e = .returned (.int .i64 4) ∧ w = w' := by
  have H := Lib.hid h
  have k0 := powered_any h
  rw [hp] at k0
  simp only [okOr_f] at k0
  clear h hp
  go_enter Tryd.func38, Tryd.ntmps38
  go_wp2_with fail
  refine wp_loop_rounds 3 ?_
  rw [rounds_succ]
  go_wp2_with fail
  refine k0.mono ?_
  rintro e w1 ⟨rfl, rfl⟩
  clear k0
  go_wp2_with fail
  go_ret
  exact ⟨rfl, rfl⟩
set_option maxHeartbeats 2000000 in
theorem ask_ps_01 (h : Dk w b vs vw gm d) (a : Int) (ps : Nat) (hps : w.cell? ⟨ps, 0, none⟩ = some (.int .i64 a)) (g c : Nat) (h0 : w.cell? ⟨g, 0, none⟩ = some (.func (.func 39) #[] #[])) (h1 : w.cell? ⟨g, 1, none⟩ = some (.func (.func 62) #[] #[.pointer (some ⟨ps, 0, none⟩)])) (hp : d.power = true) (hs : secB d a = false) :
    Calls Tryd.prog 38 #[.pointer (some ⟨b, 0, none⟩), .slice (some ⟨g, 0, none⟩) 2 c] w fun e w' => e = .returned (.int .i64 2) ∧ ∃ n, w' = w.drewN n := by
  have H := Lib.hid h
  have k0 := powered_any h
  rw [hp] at k0
  simp only [okOr_t] at k0
  have k1 := sector_any h a ps hps
  rw [hs] at k1
  simp only [okOr_f] at k1
  clear h hp hs
  go_enter Tryd.func38, Tryd.ntmps38
  go_wp2_with fail
  refine wp_loop_rounds 3 ?_
  rw [rounds_succ]
  go_wp2_with fail
  refine k0.mono ?_
  rintro e w1 ⟨rfl, rfl⟩
  clear k0
  go_wp2_with fail
  rw [rounds_succ]
  go_wp2_with fail
  refine k1.mono ?_
  rintro e w1 ⟨rfl, nd, rfl⟩
  clear k1
  have HD := Lib.hid (H.out.drewN nd)
  go_wp2_with fail
  go_ret
  exact ⟨rfl, _, rfl⟩
set_option maxHeartbeats 2000000 in
theorem ask_ps_00 (h : Dk w b vs vw gm d) (a : Int) (ps : Nat) (hps : w.cell? ⟨ps, 0, none⟩ = some (.int .i64 a)) (g c : Nat) (h0 : w.cell? ⟨g, 0, none⟩ = some (.func (.func 39) #[] #[])) (h1 : w.cell? ⟨g, 1, none⟩ = some (.func (.func 62) #[] #[.pointer (some ⟨ps, 0, none⟩)])) (hp : d.power = true) (hs : secB d a = true) :
    Calls Tryd.prog 38 #[.pointer (some ⟨b, 0, none⟩), .slice (some ⟨g, 0, none⟩) 2 c] w fun e w' => e = .returned (.int .i64 0) ∧ ∃ n, w' = w.drewN n := by
  have H := Lib.hid h
  have k0 := powered_any h
  rw [hp] at k0
  simp only [okOr_t] at k0
  have k1 := sector_any h a ps hps
  rw [hs] at k1
  simp only [okOr_t] at k1
  clear h hp hs
  go_enter Tryd.func38, Tryd.ntmps38
  go_wp2_with fail
  refine wp_loop_rounds 3 ?_
  rw [rounds_succ]
  go_wp2_with fail
  refine k0.mono ?_
  rintro e w1 ⟨rfl, rfl⟩
  clear k0
  go_wp2_with fail
  rw [rounds_succ]
  go_wp2_with fail
  refine k1.mono ?_
  rintro e w1 ⟨rfl, nd, rfl⟩
  clear k1
  have HD := Lib.hid (H.out.drewN nd)
  go_wp2_with fail
  go_wp2_with fail
  rw [rounds_succ]
  go_wp2_with fail
  go_ret
  exact ⟨rfl, _, rfl⟩
set_option maxHeartbeats 2000000 in
theorem ask_psfa_1 (h : Dk w b vs vw gm d) (a : Int) (ps : Nat) (_hps : w.cell? ⟨ps, 0, none⟩ = some (.int .i64 a)) (Ab : Option Addr) (nb cb pf : Nat) (_hpf : w.cell? ⟨pf, 0, none⟩ = some (.slice Ab nb cb)) (g c : Nat) (h0 : w.cell? ⟨g, 0, none⟩ = some (.func (.func 39) #[] #[])) (_h1 : w.cell? ⟨g, 1, none⟩ = some (.func (.func 62) #[] #[.pointer (some ⟨ps, 0, none⟩)])) (_h2 : w.cell? ⟨g, 2, none⟩ = some (.func (.func 73) #[] #[.pointer (some ⟨pf, 0, none⟩)])) (_h3 : w.cell? ⟨g, 3, none⟩ = some (.func (.func 49) #[] #[])) (hp : d.power = false) :
    Calls Tryd.prog 38 #[.pointer (some ⟨b, 0, none⟩), .slice (some ⟨g, 0, none⟩) 4 c] w fun e w' => e = .returned (.int .i64 4) ∧ w = w' := by
  have H := Lib.hid h
  have k0 := powered_any h
  rw [hp] at k0
  simp only [okOr_f] at k0
  clear h hp
  go_enter Tryd.func38, Tryd.ntmps38
  go_wp2_with fail
  refine wp_loop_rounds 5 ?_
  rw [rounds_succ]
  go_wp2_with fail
  refine k0.mono ?_
  rintro e w1 ⟨rfl, rfl⟩
  clear k0
  go_wp2_with fail
  go_ret
  exact ⟨rfl, rfl⟩
set_option maxHeartbeats 2000000 in
theorem ask_psfa_01 (h : Dk w b vs vw gm d) (a : Int) (ps : Nat) (hps : w.cell? ⟨ps, 0, none⟩ = some (.int .i64 a)) (Ab : Option Addr) (nb cb pf : Nat) (_hpf : w.cell? ⟨pf, 0, none⟩ = some (.slice Ab nb cb)) (g c : Nat) (h0 : w.cell? ⟨g, 0, none⟩ = some (.func (.func 39) #[] #[])) (h1 : w.cell? ⟨g, 1, none⟩ = some (.func (.func 62) #[] #[.pointer (some ⟨ps, 0, none⟩)])) (_h2 : w.cell? ⟨g, 2, none⟩ = some (.func (.func 73) #[] #[.pointer (some ⟨pf, 0, none⟩)])) (_h3 : w.cell? ⟨g, 3, none⟩ = some (.func (.func 49) #[] #[])) (hp : d.power = true) (hs : secB d a = false) :
    Calls Tryd.prog 38 #[.pointer (some ⟨b, 0, none⟩), .slice (some ⟨g, 0, none⟩) 4 c] w fun e w' => e = .returned (.int .i64 2) ∧ ∃ n, w' = w.drewN n := by
  have H := Lib.hid h
  have k0 := powered_any h
  rw [hp] at k0
  simp only [okOr_t] at k0
  have k1 := sector_any h a ps hps
  rw [hs] at k1
  simp only [okOr_f] at k1
  clear h hp hs
  go_enter Tryd.func38, Tryd.ntmps38
  go_wp2_with fail
  refine wp_loop_rounds 5 ?_
  rw [rounds_succ]
  go_wp2_with fail
  refine k0.mono ?_
  rintro e w1 ⟨rfl, rfl⟩
  clear k0
  go_wp2_with fail
  rw [rounds_succ]
  go_wp2_with fail
  refine k1.mono ?_
  rintro e w1 ⟨rfl, nd, rfl⟩
  clear k1
  have HD := Lib.hid (H.out.drewN nd)
  go_wp2_with fail
  go_ret
  exact ⟨rfl, _, rfl⟩
set_option maxHeartbeats 2000000 in
theorem ask_psfa_001 (h : Dk w b vs vw gm d) (a : Int) (ps : Nat) (hps : w.cell? ⟨ps, 0, none⟩ = some (.int .i64 a)) (Ab : Option Addr) (nb cb pf : Nat) (hpf : w.cell? ⟨pf, 0, none⟩ = some (.slice Ab nb cb)) (g c : Nat) (h0 : w.cell? ⟨g, 0, none⟩ = some (.func (.func 39) #[] #[])) (h1 : w.cell? ⟨g, 1, none⟩ = some (.func (.func 62) #[] #[.pointer (some ⟨ps, 0, none⟩)])) (h2 : w.cell? ⟨g, 2, none⟩ = some (.func (.func 73) #[] #[.pointer (some ⟨pf, 0, none⟩)])) (_h3 : w.cell? ⟨g, 3, none⟩ = some (.func (.func 49) #[] #[])) (hp : d.power = true) (hs : secB d a = true) (hf : ((nb : Int) == 512) = false) :
    Calls Tryd.prog 38 #[.pointer (some ⟨b, 0, none⟩), .slice (some ⟨g, 0, none⟩) 4 c] w fun e w' => e = .returned (.int .i64 2) ∧ ∃ n, w' = w.drewN n := by
  have H := Lib.hid h
  have k0 := powered_any h
  rw [hp] at k0
  simp only [okOr_t] at k0
  have k1 := sector_any h a ps hps
  rw [hs] at k1
  simp only [okOr_t] at k1
  have HF := Lib.hid hf
  clear h hp hs hf
  go_enter Tryd.func38, Tryd.ntmps38
  go_wp2_with fail
  refine wp_loop_rounds 5 ?_
  rw [rounds_succ]
  go_wp2_with fail
  refine k0.mono ?_
  rintro e w1 ⟨rfl, rfl⟩
  clear k0
  go_wp2_with fail
  rw [rounds_succ]
  go_wp2_with fail
  refine k1.mono ?_
  rintro e w1 ⟨rfl, nd, rfl⟩
  clear k1
  have h2 : (w.drewN nd).cell? ⟨g, 2, none⟩ = some (.func (.func 73) #[] #[.pointer (some ⟨pf, 0, none⟩)]) := h2
  have hpf : (w.drewN nd).cell? ⟨pf, 0, none⟩ = some (.slice Ab nb cb) := hpf
  have HD := Lib.hid (H.out.drewN nd)
  go_wp2_with fail
  rw [rounds_succ]
  go_wp2_with fail
  refine (bytes_fill Ab nb cb pf hpf _).mono ?_
  rintro e w1 ⟨rfl, rfl⟩
  rw [HF.out]
  simp only [okOr_f]
  go_wp2_with fail
  go_ret
  exact ⟨rfl, _, rfl⟩
set_option maxHeartbeats 2000000 in
theorem ask_psfa_0000 (h : Dk w b vs vw gm d) (a : Int) (ps : Nat) (hps : w.cell? ⟨ps, 0, none⟩ = some (.int .i64 a)) (Ab : Option Addr) (nb cb pf : Nat) (hpf : w.cell? ⟨pf, 0, none⟩ = some (.slice Ab nb cb)) (g c : Nat) (h0 : w.cell? ⟨g, 0, none⟩ = some (.func (.func 39) #[] #[])) (h1 : w.cell? ⟨g, 1, none⟩ = some (.func (.func 62) #[] #[.pointer (some ⟨ps, 0, none⟩)])) (h2 : w.cell? ⟨g, 2, none⟩ = some (.func (.func 73) #[] #[.pointer (some ⟨pf, 0, none⟩)])) (h3 : w.cell? ⟨g, 3, none⟩ = some (.func (.func 49) #[] #[])) (hp : d.power = true) (hs : secB d a = true) (hf : ((nb : Int) == 512) = true) (ho : d.out = false) :
    Calls Tryd.prog 38 #[.pointer (some ⟨b, 0, none⟩), .slice (some ⟨g, 0, none⟩) 4 c] w fun e w' => e = .returned (.int .i64 0) ∧ Dk w' b vs vw gm d.act ∧ Kp (fun k => k = b) w w' := by
  have H := Lib.hid h
  have k0 := powered_any h
  rw [hp] at k0
  simp only [okOr_t] at k0
  have k1 := sector_any h a ps hps
  rw [hs] at k1
  simp only [okOr_t] at k1
  have HF := Lib.hid hf
  have HO := Lib.hid ho
  clear h hp hs hf ho
  go_enter Tryd.func38, Tryd.ntmps38
  go_wp2_with fail
  refine wp_loop_rounds 5 ?_
  rw [rounds_succ]
  go_wp2_with fail
  refine k0.mono ?_
  rintro e w1 ⟨rfl, rfl⟩
  clear k0
  go_wp2_with fail
  rw [rounds_succ]
  go_wp2_with fail
  refine k1.mono ?_
  rintro e w1 ⟨rfl, nd, rfl⟩
  clear k1
  have h2 : (w.drewN nd).cell? ⟨g, 2, none⟩ = some (.func (.func 73) #[] #[.pointer (some ⟨pf, 0, none⟩)]) := h2
  have h3 : (w.drewN nd).cell? ⟨g, 3, none⟩ = some (.func (.func 49) #[] #[]) := h3
  have hpf : (w.drewN nd).cell? ⟨pf, 0, none⟩ = some (.slice Ab nb cb) := hpf
  have HD := Lib.hid (H.out.drewN nd)
  go_wp2_with fail
  rw [rounds_succ]
  go_wp2_with fail
  refine (bytes_fill Ab nb cb pf hpf _).mono ?_
  rintro e w1 ⟨rfl, rfl⟩
  rw [HF.out]
  simp only [okOr_t]
  go_wp2_with fail
  rw [rounds_succ]
  go_wp2_with fail
  refine (act_ok HD.out HO.out).mono ?_
  rintro e w2 ⟨rfl, hdk, hk⟩
  have HDK := Lib.hid hdk
  have HK := Lib.hid (((Kp.refl _ w).drewN nd).trans hk)
  clear hdk hk
  go_wp2_with fail
  go_wp2_with fail
  rw [rounds_succ]
  go_wp2_with fail
  go_ret
  exact ⟨rfl, HDK.out, HK.out⟩
set_option maxHeartbeats 2000000 in
theorem ask_psfa_0001 (h : Dk w b vs vw gm d) (a : Int) (ps : Nat) (hps : w.cell? ⟨ps, 0, none⟩ = some (.int .i64 a)) (Ab : Option Addr) (nb cb pf : Nat) (hpf : w.cell? ⟨pf, 0, none⟩ = some (.slice Ab nb cb)) (g c : Nat) (h0 : w.cell? ⟨g, 0, none⟩ = some (.func (.func 39) #[] #[])) (h1 : w.cell? ⟨g, 1, none⟩ = some (.func (.func 62) #[] #[.pointer (some ⟨ps, 0, none⟩)])) (h2 : w.cell? ⟨g, 2, none⟩ = some (.func (.func 73) #[] #[.pointer (some ⟨pf, 0, none⟩)])) (h3 : w.cell? ⟨g, 3, none⟩ = some (.func (.func 49) #[] #[])) (hp : d.power = true) (hs : secB d a = true) (hf : ((nb : Int) == 512) = true) (ho : d.out = true) :
    Calls Tryd.prog 38 #[.pointer (some ⟨b, 0, none⟩), .slice (some ⟨g, 0, none⟩) 4 c] w fun e w' => e = .returned (.int .i64 4) ∧ Dk w' b vs (.slice none 0 0) gm (d.lose d.keep) ∧ Kp (Tn b vs gm) w w' := by
  have H := Lib.hid h
  have k0 := powered_any h
  rw [hp] at k0
  simp only [okOr_t] at k0
  have k1 := sector_any h a ps hps
  rw [hs] at k1
  simp only [okOr_t] at k1
  have HF := Lib.hid hf
  have HO := Lib.hid ho
  clear h hp hs hf ho
  go_enter Tryd.func38, Tryd.ntmps38
  go_wp2_with fail
  refine wp_loop_rounds 5 ?_
  rw [rounds_succ]
  go_wp2_with fail
  refine k0.mono ?_
  rintro e w1 ⟨rfl, rfl⟩
  clear k0
  go_wp2_with fail
  rw [rounds_succ]
  go_wp2_with fail
  refine k1.mono ?_
  rintro e w1 ⟨rfl, nd, rfl⟩
  clear k1
  have h2 : (w.drewN nd).cell? ⟨g, 2, none⟩ = some (.func (.func 73) #[] #[.pointer (some ⟨pf, 0, none⟩)]) := h2
  have h3 : (w.drewN nd).cell? ⟨g, 3, none⟩ = some (.func (.func 49) #[] #[]) := h3
  have hpf : (w.drewN nd).cell? ⟨pf, 0, none⟩ = some (.slice Ab nb cb) := hpf
  have HD := Lib.hid (H.out.drewN nd)
  go_wp2_with fail
  rw [rounds_succ]
  go_wp2_with fail
  refine (bytes_fill Ab nb cb pf hpf _).mono ?_
  rintro e w1 ⟨rfl, rfl⟩
  rw [HF.out]
  simp only [okOr_t]
  go_wp2_with fail
  rw [rounds_succ]
  go_wp2_with fail
  refine (act_out HD.out HO.out).mono ?_
  rintro e w2 ⟨rfl, hdk, hk⟩
  have HDK := Lib.hid hdk
  have HK := Lib.hid (((Kp.refl _ w).drewN nd).trans hk)
  clear hdk hk
  go_wp2_with fail
  go_ret
  exact ⟨rfl, HDK.out, HK.out⟩
end
end Go.Proofs.YtfcljcikajaedaaDoor
