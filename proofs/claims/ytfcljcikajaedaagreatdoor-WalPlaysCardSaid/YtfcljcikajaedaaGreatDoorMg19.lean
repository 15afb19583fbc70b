/- What a head's sector is made of: its bytes, as a row of its own. Conditions: the table of half bytes reads as the program's text lays it; a head that may be. -/
import Derived.Test.YtfcljcikajaedaaGreatDoorMg3
import Derived.Test.YtfcljcikajaedaaGreatDoorMg16
import Derived.Test.YtfcljcikajaedaaGreatDoorMg18
import Derived.Test.YtfcljcikajaedaaGreatDoorMg4
import Derived.Test.YtfcljcikajaedaaGreatDoorMg12
namespace Go.Proofs.YtfcljcikajaedaaGreatDoor
open Go.RowKit

theorem hd_cells {w : World} {g : Nat} {t : TypeId} {h : Hd} {a : Nat} (hb : Box w g t (hcs h a).toArray) : w.cell? ⟨g, 0, none⟩ = some (.int .u64 h.g) ∧ w.cell? ⟨g, 1, none⟩ = some (.int .u64 h.f) ∧ w.cell? ⟨g, 2, none⟩ = some (.int .i64 h.n) ∧ w.cell? ⟨g, 3, none⟩ = some (.string ⟨h.note.toArray⟩) := ⟨hb.cell 0, hb.cell 1, hb.cell 2, hb.cell 3⟩
theorem note_tb (l : List UInt8) : tb ⟨l.toArray⟩ = l := by show l.toArray.toList = l; simp
theorem hput_len (h : Hd) : (putS (putS (putS (putS [] 0 (beN 8 h.g)) 0 (beN 8 h.f)) 0 (beN 2 h.n)) 0 (UInt8.ofNat (⟨h.note.toArray⟩ : ByteArray).size :: tb ⟨h.note.toArray⟩)).length = 19 + h.note.length := by
  rw [note_tb]; simp [putS, beN_length]; omega
theorem hbody_put (h : Hd) (c : Nat) (hc : h.note.length + c = 489) : putS (putS (putS (putS (putS [] 0 (beN 8 h.g)) 0 (beN 8 h.f)) 0 (beN 2 h.n)) 0 (UInt8.ofNat (⟨h.note.toArray⟩ : ByteArray).size :: tb ⟨h.note.toArray⟩)) 0 (tb ⟨(List.replicate c (0 : UInt8)).toArray⟩) = hbody h := by
  have e2 : c = 489 - h.note.length := by omega
  rw [note_tb, note_tb, note_size]
  simp only [putS_ok, List.nil_append, hbody, e2]

set_option maxRecDepth 100000 in
set_option maxHeartbeats 4000000 in
theorem hbytes_any (h : Hd) (a : Nat) (w : World) (ok : h.ok) (ht : Tbl w) :
    Calls Tryz.prog 69 #[.agg (hcs h a).toArray] w fun e w' => ∃ g c, e = .returned (.slice (some ⟨g, 0, none⟩) 512 c) ∧ 512 ≤ c ∧ c ≤ maxLen ∧ w'.ownsRow 0 5 1 (.slice (some ⟨g, 0, none⟩) 512 c) 512 (bcs (hsec h)) ∧ w.heap.size ≤ g ∧ Kp (fun _ => False) w w' := by
  obtain ⟨hg, hf, hlo, hhi, hnote⟩ := ok
  obtain ⟨c, hc⟩ : ∃ c : Nat, h.note.length + c = 489 := ⟨489 - h.note.length, by omega⟩
  have HT := Lib.hid ht
  have HNS := Lib.hid (note_size h.note)
  have hwn : IntKind.u64.wrap (h.n : Int) = h.n := IntWalk.u64_in _ (by omega)
  have hsub := Lib.hid (show IntKind.i64.wrap ((508 : Int) - ((19 + h.note.length : Nat) : Int)) = (c : Int) by rw [IntWalk.i64_in _ (by omega)]; omega)
  clear ht
  have B0 := Lib.hid (Box.new w 84 (hcs h a).toArray)
  have K0 := Lib.hid ((Kp.refl (fun _ => False) w).alloc (.cells (hcs h a).toArray 84))
  go_enter Tryz.func69, Tryz.ntmps69
  go_upto_region 1 with fail
  generalize w.alloc (.cells (hcs h a).toArray 84) = w0 at *
  refine wp_region_held_drew (S := fun v => v.cell? ⟨w.heap.size, 0, none⟩ = some (.int .u64 h.g) ∧ v.cell? ⟨w.heap.size, 1, none⟩ = some (.int .u64 h.f) ∧ v.cell? ⟨w.heap.size, 2, none⟩ = some (.int .i64 h.n) ∧ v.cell? ⟨w.heap.size, 3, none⟩ = some (.string ⟨h.note.toArray⟩)) (by kernel_rfl) (hd_cells B0.out) (fun hHeld => ?_)
  refine tk 1 (h := ?_)
  refine tk 2 (h := ?_)
  refine tk 4 (h := ?_)
  refine tk 5 (h := ?_)
  refine tk 7 (h := ?_)
  refine tk 8 (h := ?_)
  refine tk 9 (h := ?_)
  refine tk 11 (h := ?_)
  refine tk 12 (h := ?_)
  refine rd 0 (h := fun K hK => ?_)
  go_simp
  have hlt := B0.out.lt
  refine (new_any (fun k => w.heap.size + 1 ≤ k) w0.drew hlt).mono ?_
  rintro e w1 ⟨rfl, hp, hk⟩
  have P1 := Lib.hid (pk_of hp)
  have B1 := Lib.hid ((B0.out.drew).kp hk (fun e => e))
  have K1 := Lib.hid (K0.out.drew.trans hk)
  generalize Value.pointer (some ⟨w0.drew.heap.size, 0, none⟩) = p at *
  clear hp hk hlt
  go_wp2_with fail
  refine hK.out _ _ (hd_cells B1.out) (fun hHeld1 => ?_)
  clear hK K
  try simp only [Act.put, List.setIfInBounds_toArray, List.set_cons_zero, List.set_cons_succ]
  refine rd 3 (h := fun K hK => ?_)
  go_simp
  have hFN := fnew (w := w) (w' := w1) B1.out.lt
  have hcall := put_fine8 P1.out hFN h.g hg (by decide)
  refine hcall.mono ?_
  clear hcall
  rintro e w2 ⟨rfl, hp, hk⟩
  have P2 := Lib.hid hp
  have B2 := Lib.hid (B1.out.kp hk (fun e => by omega))
  have K2 := Lib.hid (K1.out.trans_new hk (fun b e => .inl (by omega)))
  clear hp hk hFN
  go_wp2_with fail
  refine hK.out _ _ (hd_cells B2.out) (fun hHeld2 => ?_)
  clear hK K
  try simp only [Act.put, List.setIfInBounds_toArray, List.set_cons_zero, List.set_cons_succ]
  refine rd 6 (h := fun K hK => ?_)
  go_simp
  have hFN := fnew (w := w) (w' := w2) B2.out.lt
  have hcall := put_fine8 P2.out hFN h.f hf (by simp [putS, beN_length])
  refine hcall.mono ?_
  clear hcall
  rintro e w3 ⟨rfl, hp, hk⟩
  have P3 := Lib.hid hp
  have B3 := Lib.hid (B2.out.kp hk (fun e => by omega))
  have K3 := Lib.hid (K2.out.trans_new hk (fun b e => .inl (by omega)))
  clear hp hk hFN
  go_wp2_with fail
  refine hK.out _ _ (hd_cells B3.out) (fun hHeld3 => ?_)
  clear hK K
  try simp only [Act.put, List.setIfInBounds_toArray, List.set_cons_zero, List.set_cons_succ]
  refine rd 10 (h := fun K hK => ?_)
  go_simp
  have hFN := fnew (w := w) (w' := w3) B3.out.lt
  have hcall := put_fine2 P3.out hFN h.n (by omega) (by simp [putS, beN_length])
  refine hcall.mono ?_
  clear hcall
  rintro e w4 ⟨rfl, hp, hk⟩
  have P4 := Lib.hid hp
  have B4 := Lib.hid (B3.out.kp hk (fun e => by omega))
  have K4 := Lib.hid (K3.out.trans_new hk (fun b e => .inl (by omega)))
  clear hp hk hFN
  go_wp2_with fail
  refine hK.out _ _ (hd_cells B4.out) (fun hHeld4 => ?_)
  clear hK K
  try simp only [Act.put, List.setIfInBounds_toArray, List.set_cons_zero, List.set_cons_succ]
  refine rd 13 (h := fun K hK => ?_)
  go_simp
  have hFN := fnew (w := w) (w' := w4) B4.out.lt
  have hcall := name_fine P4.out hFN ⟨h.note.toArray⟩ (by rw [HNS.out]; omega) (by rw [HNS.out]; simp [putS, beN_length]; omega)
  refine hcall.mono ?_
  clear hcall
  rintro e w5 ⟨rfl, hp, hk⟩
  have P5 := Lib.hid hp
  have B5 := Lib.hid (B4.out.kp hk (fun e => by omega))
  have K5 := Lib.hid (K4.out.trans_new hk (fun b e => .inl (by omega)))
  clear hp hk hFN
  go_wp2_with fail
  refine hK.out _ _ (hd_cells B5.out) (fun hHeld5 => ?_)
  clear hK K
  try simp only [Act.put, List.setIfInBounds_toArray, List.set_cons_zero, List.set_cons_succ]
  refine tk 14 (h := ?_)
  refine wpAnyH_done (by kernel_rfl) ?_ _
  go_wp2_with fail
  have hlen := hput_len h
  refine (bytes_any P5.out (by rw [hlen]; omega)).mono ?_
  rintro e w6 ⟨A6, c6, rfl, _, _, _, _, hk⟩
  have P6 := Lib.hid (P5.out.still hk)
  have K6 := Lib.hid (K5.out.trans hk)
  have B6 := Lib.hid (B5.out.kp hk (fun e => e))
  rw [hlen]
  have HLN := Lib.hid hlen
  have HC := Lib.hid hc
  have hcb : c ≤ 489 := by omega
  clear hk hlen hc hHeld hHeld1 hHeld2 hHeld3 hHeld4 hHeld5
  go_wp2_with fail
  rw [show ((508 : Int) - (19 + (h.note.length : Int))) = (c : Int) by have := HC.out; omega]
  refine (Tryz.strings_Repeat ⟨#[0]⟩ c w6 (by omega) (by rw [show (⟨#[0]⟩ : ByteArray).size = 1 from rfl, Nat.one_mul]; omega)).mono ?_
  rintro e w7 ⟨rfl, hbl⟩
  have hk := (Kp.of_below hbl).fresh (fun _ => False)
  rw [show (⟨#[0]⟩ : ByteArray).data.toList = [0] from rfl, repeat_zero]
  have P7 := Lib.hid (P6.out.still hk)
  have B7 := Lib.hid (B6.out.kp hk (fun e => e))
  have K7 := Lib.hid (K6.out.trans hk)
  clear hk hbl
  go_wp2_with fail
  have hFN := fnew (w := w) (w' := w7) B7.out.lt
  refine (text_any P7.out hFN ⟨(List.replicate c (0 : UInt8)).toArray⟩ (by rw [HLN.out, zero_size]; omega)).mono ?_
  rintro e w8 ⟨rfl, hp, hk⟩
  have P8 := Lib.hid hp
  have B8 := Lib.hid (B7.out.kp hk (fun e => by omega))
  have K8 := Lib.hid (K7.out.trans_new hk (fun b e => .inl (by omega)))
  clear hp hk hFN
  go_wp2_with fail
  have hlen : (hbody h).length = 508 := hbody_length h hnote
  rw [hbody_put h c HC.out] at P8
  obtain ⟨L, hL⟩ : ∃ L, hbody h = L := ⟨_, rfl⟩
  have hsec : hsec h = L ++ beN 4 (crcN L) := by rw [hsec, hL]
  rw [hL] at hlen P8
  have HSEC := Lib.hid hsec
  have HLEN := Lib.hid hlen
  clear hsec hL hlen
  refine (bytes_any P8.out (by rw [HLEN.out]; decide)).mono ?_
  rintro e w9 ⟨A9, c9, rfl, h91, h92, hr, _, hk⟩
  have P9 := Lib.hid (P8.out.still hk)
  have K9 := Lib.hid (K8.out.trans hk)
  have B9 := Lib.hid (B8.out.kp hk (fun e => e))
  have HR := Lib.hid hr
  clear hr hk h91 h92
  go_wp2_with fail
  refine (sum_any' A9 L c9 w9 (by rw [HLEN.out]; decide) HR.out (HT.out.kp K9.out (fun e => e))).mono ?_
  rintro e w10 ⟨rfl, rfl⟩
  have hcl := crcN_lt L
  generalize crcN L = cr at *
  go_wp2_with fail
  have hFN := fnew (w := w) (w' := w9) B9.out.lt
  refine (put_fine4 P9.out hFN cr hcl (by rw [HLEN.out]; decide)).mono ?_
  rintro e w10 ⟨rfl, hp, hk⟩
  have P10 := Lib.hid hp
  have K10 := Lib.hid (K9.out.trans_new hk (fun b e => .inl (by omega)))
  clear hp hk hFN
  go_wp2_with fail
  rw [putS_ok] at P10
  have hl2 : (L ++ beN 4 cr).length = 512 := by rw [List.length_append, HLEN.out, beN_length]
  obtain ⟨M, hM⟩ : ∃ M, L ++ beN 4 cr = M := ⟨_, rfl⟩
  rw [hM] at P10 hl2
  have HM := Lib.hid hM
  clear hM
  refine (bytes_any_own P10.out (by rw [hl2]; decide) (by rw [hl2]; decide)).mono ?_
  rintro e w11 ⟨g2, c2, rfl, h1, h2', ho, hgg, hk⟩
  rw [hl2]
  rw [hl2] at h1 ho
  have HO2 := Lib.hid ho
  have HK2 := Lib.hid hk
  clear ho hk
  go_wp2_with fail
  go_ret
  refine ⟨g2, c2, rfl, h1, h2', ?_, Nat.le_trans K10.out.size hgg, K10.out.trans HK2.out⟩
  rw [HSEC.out, HM.out]
  exact HO2.out
end Go.Proofs.YtfcljcikajaedaaGreatDoor

/- What wal.headOf answers: the head of a sector's bytes, or a zero one and false. Conditions: the table of half bytes reads as the program's text lays it; the sector 0 or 1. -/
namespace Go.Proofs.YtfcljcikajaedaaGreatDoor
open Go.RowKit

/-- What headOf answers. -/
def z5 : List Value := [.int .u64 0, .int .u64 0, .int .i64 0, .string ⟨#[]⟩, .int .i64 0]
def headV (l : List UInt8) (a : Nat) : Value := match headS l with
  | some h => .tuple #[.agg (hcs h a).toArray, .bool true]
  | none => .tuple #[.agg z5.toArray, .bool false]
theorem headV_none {l : List UInt8} {a : Nat} (h : headS l = none) : headV l a = .tuple #[.agg z5.toArray, .bool false] := by rw [headV, h]
theorem headV_some {l : List UInt8} {a : Nat} {h : Hd} (hh : headS l = some h) : headV l a = .tuple #[.agg (hcs h a).toArray, .bool true] := by rw [headV, hh]
theorem z5_one : ∀ v ∈ z5, v.oneCell' = true := by
  intro v hv
  simp only [z5, List.mem_cons, List.not_mem_nil, or_false] at hv
  rcases hv with rfl | rfl | rfl | rfl | rfl <;> rfl
theorem headOf_results : Tryz.f65.results = #[.cell 4 84, .tmp 5] := rfl

section
variable {G : Nat → Prop} {w : World} {b : Nat} {l : List UInt8}
set_option maxHeartbeats 400000 in
theorem take_short (h : Opn G w b l none) (hG : G w.heap.size) (n : Nat) (hw : wdB n = true) (hn : l.length < n) :
    Calls Tryz.prog 89 #[.pointer (some ⟨b, 0, none⟩), .int .i64 n] w fun e w' => e = .returned (.int .u64 0) ∧ Opn G w' b l (some 3) ∧ Kp (fun k => k = b) w w' := by
  have H := Lib.hid h
  have HN := Lib.hid hn
  clear h hn
  go_enter Tryz.func89, Tryz.ntmps89
  go_wp2_with fail
  refine (isWidth_any _ _).mono ?_
  rintro e w1 ⟨rfl, rfl⟩
  go_wp2_with fail
  refine (read_num_short H.out hG n (.inr (by have := HN.out; omega))).mono ?_
  rintro e w1 ⟨rfl, ho, hk⟩
  have Ho := Lib.hid ho
  have Hk := Lib.hid hk
  clear ho hk
  go_wp2_with fail
  go_ret
  exact ⟨rfl, Ho.out, Hk.out⟩
set_option maxHeartbeats 400000 in
theorem take_failed {e0 : Int} (h : Opn G w b l (some e0)) (he : e0 ≠ 0) (n : Nat) (hw : wdB n = true) :
    Calls Tryz.prog 89 #[.pointer (some ⟨b, 0, none⟩), .int .i64 n] w fun e w' => e = .returned (.int .u64 0) ∧ Opn G w' b l (some e0) ∧ Kp (fun k => k = b) w w' := by
  have H := Lib.hid h
  have HE := Lib.hid he
  clear h he
  go_enter Tryz.func89, Tryz.ntmps89
  go_wp2_with fail
  refine (isWidth_any _ _).mono ?_
  rintro e w1 ⟨rfl, rfl⟩
  go_wp2_with fail
  refine (read_num_failed H.out HE.out n).mono ?_
  rintro e w1 ⟨rfl, ho, hk⟩
  have Ho := Lib.hid ho
  have Hk := Lib.hid hk
  clear ho hk
  go_wp2_with fail
  go_ret
  exact ⟨rfl, Ho.out, Hk.out⟩
set_option maxHeartbeats 400000 in
theorem oname_failed {e0 : Int} (h : Opn G w b [] (some e0)) (he : e0 ≠ 0) :
    Calls Tryz.prog 90 #[.pointer (some ⟨b, 0, none⟩)] w fun e w' => e = .returned (.string ⟨#[]⟩) ∧ Opn G w' b [] (some e0) ∧ Kp (fun k => k = b) w w' := by
  have H := Lib.hid h
  have HE := Lib.hid he
  clear h he
  go_enter Tryz.func90, Tryz.ntmps90
  go_wp2_with fail
  refine (left_any H.out).mono ?_
  rintro e w1 ⟨rfl, rfl⟩
  rw [show ((([] : List UInt8).length : Nat) : Int) = 0 from rfl]
  go_wp2_with fail
  refine (read_name_failed H.out HE.out _).mono ?_
  rintro e w1 ⟨rfl, ho, hk⟩
  have Ho := Lib.hid ho
  have Hk := Lib.hid hk
  clear ho hk
  go_wp2_with fail
  go_ret
  exact ⟨rfl, Ho.out, Hk.out⟩
end

set_option maxRecDepth 100000 in
set_option maxHeartbeats 2000000 in
/-- Of no bytes. -/
theorem headOf_nil (A : Option Addr) (c : Nat) (a : Nat) (w : World) :
    Calls Tryz.prog 65 #[.int .i64 a, .slice A 0 c] w fun e w' => e = .returned (headV [] a) ∧ Kp (fun _ => False) w w' := by
  rw [headV_none headS_nil]
  have B0 := Lib.hid (Box.new w 84 #[.int .u64 0, .int .u64 0, .int .i64 0, .string ⟨#[]⟩, .int .i64 0])
  have K0 := Lib.hid ((Kp.refl (fun _ => False) w).alloc (.cells #[.int .u64 0, .int .u64 0, .int .i64 0, .string ⟨#[]⟩, .int .i64 0] 84))
  have hz : (w.alloc (.cells #[.int .u64 0, .int .u64 0, .int .i64 0, .string ⟨#[]⟩, .int .i64 0] 84)).heap.size = w.heap.size + 1 := by simp
  go_enter Tryz.func65, Tryz.ntmps65
  go_upto_region 1 with fail
  generalize w.alloc (.cells #[.int .u64 0, .int .u64 0, .int .i64 0, .string ⟨#[]⟩, .int .i64 0] 84) = w0 at *
  go_wp2_with fail
  refine (of_any (fun k => w.heap.size + 1 ≤ k) w0 (fun k hk => by omega) A 0 c [] rfl (.inl rfl) (by decide)).mono ?_
  rintro e w1 ⟨o, rfl, hob, ho, hk⟩
  have O1 := Lib.hid ho
  have K1 := Lib.hid (K0.out.trans hk)
  have B1 := Lib.hid (B0.out.kp hk (fun e => e))
  clear ho hk
  have hs1 := B1.out.lt
  go_wp2_with fail
  refine (take_short O1.out (by show w.heap.size + 1 ≤ _; omega) 8 rfl (by decide)).mono ?_
  rintro e w2 ⟨rfl, ho, hk⟩
  have O2 := Lib.hid ho
  have B2 := Lib.hid (B1.out.kp hk (fun e => by omega))
  have K2 := Lib.hid (K1.out.trans_new hk (fun b e => .inl (by omega)))
  clear ho hk
  go_wp2_with fail
  refine (take_failed O2.out (by decide) 8 rfl).mono ?_
  rintro e w3 ⟨rfl, ho, hk⟩
  have O3 := Lib.hid ho
  have B3 := Lib.hid (B2.out.kp hk (fun e => by omega))
  have K3 := Lib.hid (K2.out.trans_new hk (fun b e => .inl (by omega)))
  clear ho hk
  go_wp2_with fail
  refine (take_failed O3.out (by decide) 2 rfl).mono ?_
  rintro e w4 ⟨rfl, ho, hk⟩
  have O4 := Lib.hid ho
  have B4 := Lib.hid (B3.out.kp hk (fun e => by omega))
  have K4 := Lib.hid (K3.out.trans_new hk (fun b e => .inl (by omega)))
  clear ho hk
  go_wp2_with fail
  refine (oname_failed O4.out (by decide)).mono ?_
  rintro e w5 ⟨rfl, ho, hk⟩
  have B5 := Lib.hid (B4.out.kp hk (fun e => by omega))
  have K5 := Lib.hid (K4.out.trans_new hk (fun b e => .inl (by omega)))
  clear ho hk
  have B6 := Lib.hid (B5.out.alloc (.cells #[.int .u64 0, .int .u64 0, .int .i64 0, .string ⟨#[]⟩, .int .i64 a] 84))
  have K6 := Lib.hid (K5.out.alloc (.cells #[.int .u64 0, .int .u64 0, .int .i64 0, .string ⟨#[]⟩, .int .i64 a] 84))
  have G6 := Lib.hid (Box.new w5 84 #[.int .u64 0, .int .u64 0, .int .i64 0, .string ⟨#[]⟩, .int .i64 a])
  have hg := B5.out.lt
  go_upto_region 3 with fail
  generalize w5.alloc (.cells #[.int .u64 0, .int .u64 0, .int .i64 0, .string ⟨#[]⟩, .int .i64 a] 84) = w6 at *
  generalize w5.heap.size = g at *
  have c2 := G6.out.cell 2
  simp at c2
  go_wp2_with fail
  refine (maySectors_any 0 w6).mono ?_
  rintro e w7 ⟨rfl, rfl⟩
  rw [show secsB 0 = false from rfl]
  go_wp2_with (first | (refine wpList_store_box rfl 84 (.tmp 4) (.tmp 38) rfl w.heap.size [.int .u64 0, .int .u64 0, .int .i64 0, .string ⟨#[]⟩, .int .i64 0] rfl rfl B6.out rfl info_head z5_one ?_; intro W hb hk) | fail)
  have KF : Kp (fun _ => False) w W := K6.out.trans_new hk (fun b e => .inl (by omega))
  refine bodyPost_ret (v := .tuple #[.agg #[.int .u64 0, .int .u64 0, .int .i64 0, .string ⟨#[]⟩, .int .i64 0], .bool false]) ?_ rfl ⟨rfl, KF⟩
  exact results_two headOf_results _ _ w.heap.size 84 _ (0, 0) _ rfl hb Tryz.underlying84 rfl info_head

set_option maxRecDepth 100000 in
set_option maxHeartbeats 4000000 in
theorem headOf_whole (A : Option Addr) (c : Nat) (l : List UInt8) (a : Nat) (w : World) (h : Rd w A l) (ht : Tbl w) (hl : l.length = 512) :
    Calls Tryz.prog 65 #[.int .i64 a, .slice A 512 c] w fun e w' => e = .returned (headV l a) ∧ Kp (fun _ => False) w w' := by
  have H := Lib.hid h
  have HT := Lib.hid ht
  have HL := Lib.hid hl
  have hx18 : l.drop 18 = (l.getD 18 0) :: l.drop 19 := by
    rw [List.drop_eq_getElem_cons (by omega)]
    simp [List.getD, hl]
  have HX := Lib.hid hx18
  clear h ht hl hx18
  have B0 := Lib.hid (Box.new w 84 #[.int .u64 0, .int .u64 0, .int .i64 0, .string ⟨#[]⟩, .int .i64 0])
  have K0 := Lib.hid ((Kp.refl (fun _ => False) w).alloc (.cells #[.int .u64 0, .int .u64 0, .int .i64 0, .string ⟨#[]⟩, .int .i64 0] 84))
  have hz : (w.alloc (.cells #[.int .u64 0, .int .u64 0, .int .i64 0, .string ⟨#[]⟩, .int .i64 0] 84)).heap.size = w.heap.size + 1 := by simp
  go_enter Tryz.func65, Tryz.ntmps65
  go_upto_region 1 with fail
  generalize w.alloc (.cells #[.int .u64 0, .int .u64 0, .int .i64 0, .string ⟨#[]⟩, .int .i64 0] 84) = w0 at *
  go_wp2_with fail
  refine (of_any (fun k => w.heap.size + 1 ≤ k) w0 (fun k hk => by omega) A 512 c l HL.out (H.out.kp K0.out (fun _ _ e => e)) (by rw [HL.out]; decide)).mono ?_
  rintro e w1 ⟨o, rfl, hob, ho, hk⟩
  have O1 := Lib.hid ho
  have K1 := Lib.hid (K0.out.trans hk)
  have B1 := Lib.hid (B0.out.kp hk (fun e => e))
  clear ho hk
  have hs1 := B1.out.lt
  go_wp2_with fail
  refine (take_fine O1.out 8 rfl (by rw [HL.out]; decide)).mono ?_
  rintro e w2 ⟨rfl, ho, hk⟩
  obtain ⟨kG, hkG⟩ : ∃ q, kg l = q := ⟨_, rfl⟩
  rw [show numN (l.take 8) = kG from hkG]
  have HG := Lib.hid hkG
  clear hkG
  have O2 := Lib.hid ho
  have B2 := Lib.hid (B1.out.kp hk (fun e => by omega))
  have K2 := Lib.hid (K1.out.trans_new hk (fun b e => .inl (by omega)))
  clear ho hk
  go_wp2_with fail
  refine (take_fine O2.out 8 rfl (by rw [List.length_drop, HL.out]; decide)).mono ?_
  rintro e w3 ⟨rfl, ho, hk⟩
  obtain ⟨kF, hkF⟩ : ∃ q, kf l = q := ⟨_, rfl⟩
  rw [show numN ((l.drop 8).take 8) = kF from hkF]
  rw [List.drop_drop] at ho
  have HF := Lib.hid hkF
  clear hkF
  have O3 := Lib.hid ho
  have B3 := Lib.hid (B2.out.kp hk (fun e => by omega))
  have K3 := Lib.hid (K2.out.trans_new hk (fun b e => .inl (by omega)))
  clear ho hk
  go_wp2_with fail
  refine (take_fine O3.out 2 rfl (by rw [List.length_drop, HL.out]; decide)).mono ?_
  rintro e w4 ⟨rfl, ho, hk⟩
  obtain ⟨kN, hkN⟩ : ∃ q, kn l = q := ⟨_, rfl⟩
  rw [show numN ((l.drop (8 + 8)).take 2) = kN from hkN]
  rw [List.drop_drop] at ho
  have hnl : kN < 65536 := by
    rw [← hkN]
    exact Nat.lt_of_lt_of_le (numN_take_lt _ 2) (by decide)
  have hwn : IntKind.i64.wrap (kN : Int) = kN := IntWalk.i64_in _ (by omega)
  have HN := Lib.hid hkN
  clear hkN
  have O4 := Lib.hid ho
  have B4 := Lib.hid (B3.out.kp hk (fun e => by omega))
  have K4 := Lib.hid (K3.out.trans_new hk (fun b e => .inl (by omega)))
  clear ho hk
  go_wp2_with fail
  rw [show l.drop (8 + 8 + 2) = (l.getD 18 0) :: l.drop 19 from HX.out] at O4
  obtain ⟨x, hx⟩ : ∃ x, l.getD 18 0 = x := ⟨_, rfl⟩
  rw [hx] at O4
  have hx8 := x.toNat_lt
  refine (oname_fine O4.out (by rw [List.length_drop, HL.out]; omega)).mono ?_
  rintro e w5 ⟨rfl, ho, hk⟩
  obtain ⟨tx, htx⟩ : ∃ tx, kt l = tx := ⟨_, rfl⟩
  have hkk : kk l = x.toNat := by rw [kk, hx]
  rw [show (l.drop 19).take x.toNat = tx by rw [← htx, kt, hkk]]
  have htl : tx.length = kk l := by
    rw [← htx, kt, List.length_take, List.length_drop, HL.out, hkk]
    omega
  have HTX := Lib.hid htx
  have HTL := Lib.hid htl
  have HHD := Lib.hid (show khd l = ⟨kG, kF, kN, tx⟩ by rw [khd, HG.out, HF.out, HN.out, htx])
  have B5 := Lib.hid (B4.out.kp hk (fun e => by omega))
  have K5 := Lib.hid (K4.out.trans_new hk (fun b e => .inl (by omega)))
  clear ho hk htx hkk htl hx hx8
  have B6 := Lib.hid (B5.out.alloc (.cells #[.int .u64 kG, .int .u64 kF, .int .i64 kN, .string ⟨tx.toArray⟩, .int .i64 a] 84))
  have K6 := Lib.hid (K5.out.alloc (.cells #[.int .u64 kG, .int .u64 kF, .int .i64 kN, .string ⟨tx.toArray⟩, .int .i64 a] 84))
  have G6 := Lib.hid (Box.new w5 84 #[.int .u64 kG, .int .u64 kF, .int .i64 kN, .string ⟨tx.toArray⟩, .int .i64 a])
  have hg := B5.out.lt
  go_upto_region 3 with fail
  generalize w5.alloc (.cells #[.int .u64 kG, .int .u64 kF, .int .i64 kN, .string ⟨tx.toArray⟩, .int .i64 a] 84) = w6 at *
  generalize w5.heap.size = g at *
  have c2 := G6.out.cell 2
  have c3 := G6.out.cell 3
  simp at c2 c3
  have hS : headS l = if 512 = 512 ∧ 96 ≤ kN ∧ kN ≤ 512 ∧ tx.length ≤ 64 ∧ hsec ⟨kG, kF, kN, tx⟩ = l then some ⟨kG, kF, kN, tx⟩ else none := by
    rw [headS, HL.out, HN.out, ← HTL.out, HHD.out]
  have HS := Lib.hid hS
  clear hS
  rcases hsb : secsB (kN : Int) with _ | _
  · have HV := Lib.hid (headV_none (l := l) (a := a) (by
      rw [HS.out, if_neg]
      rintro ⟨_, h1, h2, _⟩
      have : secsB (kN : Int) = true := by simp only [secsB, Bool.and_eq_true, decide_eq_true_eq]; omega
      rw [this] at hsb
      cases hsb))
    go_wp2_with fail
    refine (maySectors_any kN w6).mono ?_
    rintro e w7 ⟨rfl, rfl⟩
    rw [hsb]
    clear hsb c2 c3
    go_wp2_with (first | (refine wpList_store_box rfl 84 (.tmp 4) (.tmp 38) rfl w.heap.size [.int .u64 0, .int .u64 0, .int .i64 0, .string ⟨#[]⟩, .int .i64 0] rfl rfl B6.out rfl info_head z5_one ?_; intro W hb hk) | fail)
    have KF : Kp (fun _ => False) w W := K6.out.trans_new hk (fun b e => .inl (by omega))
    rw [HV.out]
    refine bodyPost_ret (v := .tuple #[.agg #[.int .u64 0, .int .u64 0, .int .i64 0, .string ⟨#[]⟩, .int .i64 0], .bool false]) ?_ rfl ⟨rfl, KF⟩
    exact results_two headOf_results _ _ w.heap.size 84 _ (0, 0) _ rfl hb Tryz.underlying84 rfl info_head
  · have hsb' : 96 ≤ kN ∧ kN ≤ 512 := by
      simp only [secsB, Bool.and_eq_true, decide_eq_true_eq] at hsb
      omega
    have HSB := Lib.hid hsb'
    clear hsb'
    rcases hnb : noteB tx with _ | _
    · have HV := Lib.hid (headV_none (l := l) (a := a) (by
        rw [HS.out, if_neg]
        rintro ⟨_, _, _, h3, _⟩
        have : noteB tx = true := decide_eq_true h3
        rw [this] at hnb
        cases hnb))
      go_wp2_with fail
      refine (maySectors_any kN w6).mono ?_
      rintro e w7 ⟨rfl, rfl⟩
      rw [hsb]
      go_wp2_with fail
      refine (mayNote_any tx w6).mono ?_
      rintro e w7 ⟨rfl, rfl⟩
      rw [hnb]
      clear hsb hnb c2 c3
      go_wp2_with (first | (refine wpList_store_box rfl 84 (.tmp 4) (.tmp 38) rfl w.heap.size [.int .u64 0, .int .u64 0, .int .i64 0, .string ⟨#[]⟩, .int .i64 0] rfl rfl B6.out rfl info_head z5_one ?_; intro W hb hk) | fail)
      have KF : Kp (fun _ => False) w W := K6.out.trans_new hk (fun b e => .inl (by omega))
      rw [HV.out]
      refine bodyPost_ret (v := .tuple #[.agg #[.int .u64 0, .int .u64 0, .int .i64 0, .string ⟨#[]⟩, .int .i64 0], .bool false]) ?_ rfl ⟨rfl, KF⟩
      exact results_two headOf_results _ _ w.heap.size 84 _ (0, 0) _ rfl hb Tryz.underlying84 rfl info_head
    · have htl64 : tx.length ≤ 64 := of_decide_eq_true hnb
      have hok : (⟨kG, kF, kN, tx⟩ : Hd).ok := ⟨by
          rw [← HG.out]
          exact Nat.lt_of_lt_of_le (numN_take_lt _ 8) (by decide), by
          rw [← HF.out]
          exact Nat.lt_of_lt_of_le (numN_take_lt _ 8) (by decide), HSB.out.1, HSB.out.2, htl64⟩
      have HOK := Lib.hid hok
      go_wp2_with fail
      refine (maySectors_any kN w6).mono ?_
      rintro e w7 ⟨rfl, rfl⟩
      rw [hsb]
      go_wp2_with fail
      refine (mayNote_any tx w6).mono ?_
      rintro e w7 ⟨rfl, rfl⟩
      rw [hnb]
      clear hsb hnb htl64 hok
      have c0 := G6.out.cell 0
      have c1 := G6.out.cell 1
      have c4 := G6.out.cell 4
      simp at c0 c1 c4
      go_wp2_with fail
      clear c0 c1 c2 c3 c4
      refine (hbytes_any ⟨kG, kF, kN, tx⟩ a w6 HOK.out (HT.out.kp K6.out (fun e => e))).mono ?_
      rintro e w7 ⟨g7, c7, rfl, _, _, hown, hg7, hk⟩
      have B7 := Lib.hid (B6.out.kp hk (fun e => e))
      have G7 := Lib.hid (G6.out.kp hk (fun e => e))
      have K7 := Lib.hid (K6.out.trans hk)
      have R7 := Lib.hid (Rd.of_own hown)
      have A7 := Lib.hid (H.out.kp K7.out (fun _ _ e => e))
      have hsl := Lib.hid (hsec_length ⟨kG, kF, kN, tx⟩ HOK.out.note_)
      clear hown hk
      go_wp2_with fail
      refine (equal_any A (some ⟨g7, 0, none⟩) c c7 512 512 l (hsec ⟨kG, kF, kN, tx⟩) w7 HL.out hsl.out A7.out R7.out).mono ?_
      rintro e w8 ⟨rfl, rfl⟩
      by_cases heq : l = hsec ⟨kG, kF, kN, tx⟩
      · have hE : (l == hsec ⟨kG, kF, kN, tx⟩) = true := by rw [← heq]; simp
        rw [hE]
        have HV := Lib.hid (headV_some (l := l) (a := a) (h := ⟨kG, kF, kN, tx⟩) (by
          rw [HS.out, if_pos ⟨by trivial, HSB.out.1, HSB.out.2, HOK.out.note_, heq.symm⟩]))
        clear hE heq
        go_wp2_with (first | (refine wpList_load_mid rfl 84 (.tmp 7) rfl g 0 rfl [.int .u64 kG, .int .u64 kF, .int .i64 kN, .string ⟨tx.toArray⟩, .int .i64 a] _ (Box.range' (L := [.int .u64 kG, .int .u64 kF, .int .i64 kN, .string ⟨tx.toArray⟩, .int .i64 a]) G7.out) Tryz.underlying84 rfl info_head ?_) | (refine wpList_store_box rfl 84 (.tmp 4) (.tmp 39) rfl w.heap.size [.int .u64 kG, .int .u64 kF, .int .i64 kN, .string ⟨tx.toArray⟩, .int .i64 a] rfl rfl B7.out rfl info_head (hcs_one ⟨kG, kF, kN, tx⟩ a) ?_; intro W hb hk) | fail)
        have KF : Kp (fun _ => False) w W := K7.out.trans_new hk (fun b e => .inl (by omega))
        rw [HV.out]
        refine bodyPost_ret (v := .tuple #[.agg #[.int .u64 kG, .int .u64 kF, .int .i64 kN, .string ⟨tx.toArray⟩, .int .i64 a], .bool true]) ?_ rfl ⟨rfl, KF⟩
        exact results_two headOf_results _ _ w.heap.size 84 _ (0, 0) _ rfl hb Tryz.underlying84 rfl info_head
      · have hE : (l == hsec ⟨kG, kF, kN, tx⟩) = false := by simpa using heq
        rw [hE]
        have HV := Lib.hid (headV_none (l := l) (a := a) (by
          rw [HS.out, if_neg (fun h => heq h.2.2.2.2.symm)]))
        clear hE heq
        go_wp2_with (first | (refine wpList_store_box rfl 84 (.tmp 4) (.tmp 38) rfl w.heap.size [.int .u64 0, .int .u64 0, .int .i64 0, .string ⟨#[]⟩, .int .i64 0] rfl rfl B7.out rfl info_head z5_one ?_; intro W hb hk) | fail)
        have KF : Kp (fun _ => False) w W := K7.out.trans_new hk (fun b e => .inl (by omega))
        rw [HV.out]
        refine bodyPost_ret (v := .tuple #[.agg #[.int .u64 0, .int .u64 0, .int .i64 0, .string ⟨#[]⟩, .int .i64 0], .bool false]) ?_ rfl ⟨rfl, KF⟩
        exact results_two headOf_results _ _ w.heap.size 84 _ (0, 0) _ rfl hb Tryz.underlying84 rfl info_head

theorem headOf_any (A : Option Addr) (c n : Nat) (l : List UInt8) (a : Nat) (w : World) (h : Rd w A l) (ht : Tbl w) (hn : l.length = n) (hl : n = 512 ∨ n = 0) :
    Calls Tryz.prog 65 #[.int .i64 a, .slice A n c] w fun e w' => e = .returned (headV l a) ∧ Kp (fun _ => False) w w' := by
  rcases hl with rfl | rfl
  · exact headOf_whole A c l a w h ht hn
  · obtain rfl := List.eq_nil_of_length_eq_zero hn
    exact headOf_nil A c a w
end Go.Proofs.YtfcljcikajaedaaGreatDoor

/- What wal.counting answers: the head that counts. Conditions: the table of half bytes reads as the program's text lays it; the disk's own. -/
namespace Go.Proofs.YtfcljcikajaedaaGreatDoor
open Go.RowKit

/-- What is told of a sector. -/
def tellV (d : Dm) (at_ : Nat) : Value := headV (if d.power then d.nowAt at_ else []) at_
def tellE (d : Dm) (at_ : Nat) : Int := if d.power then 0 else if at_ < d.on.length then 4 else 0
theorem nowAt_far {d : Dm} (ok : d.ok) (a : Nat) (h : d.on.length ≤ a) : d.nowAt a = [] := by
  unfold Dm.nowAt
  rcases hl : lastOf d.wait a with _ | i
  · simp [List.getD, Nat.not_lt.2 h]
  · obtain ⟨x, hx⟩ := lastOf_get d.wait a i hl
    have := ok.at_ _ (List.mem_of_getElem? hx)
    simp at this
    omega
theorem tell_results : Tryz.f63.results = #[.cell 4 84, .tmp 5] := rfl
section
variable {w : World} {b : Nat} {d : Dm} {F : Nat → Prop}
set_option maxRecDepth 100000 in
set_option maxHeartbeats 4000000 in
/-- A sector is told of, while nothing failed. -/
theorem tell_fine (hD : Dsk F w b d) (ht : Tbl w) (ge gp : Nat) (he : Box w ge 47 #[.int .i64 0]) (hp : Box w gp 32 #[.pointer (some ⟨b, 0, none⟩)]) (hge : ge ≠ 0) (at_ : Nat) :
    Calls Tryz.prog 63 #[.int .i64 at_, .pointer (some ⟨ge, 0, none⟩), .pointer (some ⟨gp, 0, none⟩)] w fun e w' => e = .returned (tellV d at_) ∧ Box w' ge 47 #[.int .i64 (tellE d at_)] ∧ Kp (fun k => k = ge) w w' := by
  obtain ⟨vs, vw, gm, hdk, hsub⟩ := hD
  have ok := hdk.ok
  have hD : Dsk F w b d := ⟨vs, vw, gm, hdk, hsub⟩
  clear hdk hsub
  by_cases hlt : at_ < d.on.length
  · have hd1 : decide (d.on.length ≤ at_) = false := by simp; omega
    have hsb : secB d at_ = true := by simp [secB]; omega
    rcases hpw : d.power with _ | _
    · have hx : d.readS at_ = ([], 4) := by simp [Dm.readS, hpw]
      have HV := Lib.hid (show tellV d at_ = .tuple #[.agg #[.int .u64 0, .int .u64 0, .int .i64 0, .string ⟨#[]⟩, .int .i64 0], .bool false] by rw [tellV, hpw]; exact headV_none headS_nil)
      have HI := Lib.hid (show tellE d at_ = 4 by simp [tellE, hpw, hlt])
      clear ok hsb hpw
      have B0 := Lib.hid (Box.new w 84 #[.int .u64 0, .int .u64 0, .int .i64 0, .string ⟨#[]⟩, .int .i64 0])
      have K0 := Lib.hid ((Kp.refl (fun _ => False) w).alloc (.cells #[.int .u64 0, .int .u64 0, .int .i64 0, .string ⟨#[]⟩, .int .i64 0] 84))
      have E0 := Lib.hid (he.alloc (.cells #[.int .u64 0, .int .u64 0, .int .i64 0, .string ⟨#[]⟩, .int .i64 0] 84))
      have P0 := Lib.hid (hp.alloc (.cells #[.int .u64 0, .int .u64 0, .int .i64 0, .string ⟨#[]⟩, .int .i64 0] 84))
      have D0 := Lib.hid (hD.still ((Kp.refl (fun _ => False) w).alloc (.cells #[.int .u64 0, .int .u64 0, .int .i64 0, .string ⟨#[]⟩, .int .i64 0] 84)))
      have hne : ge ≠ w.heap.size := by have := he.lt; omega
      have HT := Lib.hid ht
      clear hD ht he hp
      go_enter Tryz.func63, Tryz.ntmps63
      go_upto_region 1 with fail
      generalize w.alloc (.cells #[.int .u64 0, .int .u64 0, .int .i64 0, .string ⟨#[]⟩, .int .i64 0] 84) = w0 at *
      have c0 := E0.out.cell 0
      have p0 := P0.out.cell 0
      simp at c0 p0
      go_wp2_with fail
      refine (len_any D0.out).mono ?_
      rintro e w1 ⟨rfl, rfl⟩
      have hrd := read_any D0.out at_
      rw [hx] at hrd
      clear hx
      go_wp2_with fail
      refine hrd.mono ?_
      clear hrd c0 p0
      rintro e w1 ⟨A, rfl, hr, hk⟩
      have B1 := Lib.hid (B0.out.kp hk (fun e => e))
      have E1 := Lib.hid (E0.out.kp hk (fun e => e))
      have K1 := Lib.hid (K0.out.trans hk)
      have R1 := Lib.hid hr
      clear hr hk
      have c0 := E1.out.cell 0
      have f0 := E1.out.free 0
      simp at c0
      have E2 := Lib.hid (E1.out.put 0 (.int .i64 4))
      have B2 := Lib.hid (B1.out.far (p := ⟨ge, 0, none⟩) (fun e => hne e.symm) (.int .i64 4))
      have K2 := Lib.hid (Kp.setCell (S := fun k => k = ge) (p := ⟨ge, 0, none⟩) (K1.out.mono (fun _ _ e => e.elim)) (.inr rfl) (.int .i64 4))
      have hrk := R1.out.kp_box (w' := w1.setCell ⟨ge, 0, none⟩ (.int .i64 4)) (Kp.one w1 ge 0 (.int .i64 4)) E1.out (by intro i u; cases i with | zero => simp | succ i => simp)
      have R2 := Lib.hid hrk
      clear hrk
      go_upto_region 5 with fail
      generalize w1.setCell ⟨ge, 0, none⟩ (.int .i64 4) = w2 at *
      clear c0 f0
      go_wp2_with fail
      refine (headOf_any A 0 0 [] at_ w2 R2.out (HT.out.kp K2.out (fun e => hge.symm e)) rfl (.inr rfl)).mono ?_
      rintro e w3 ⟨rfl, hk⟩
      have B3 := Lib.hid (B2.out.kp hk (fun e => e))
      have E3 := Lib.hid (E2.out.kp hk (fun e => e))
      have K3 := Lib.hid (K2.out.trans (hk.mono (fun _ _ e => e.elim)))
      clear hk

      rw [headV_none headS_nil]
      go_wp2_with (first | (refine wpList_store_box rfl 84 (.tmp 4) (.tmp 25) rfl w.heap.size [.int .u64 0, .int .u64 0, .int .i64 0, .string ⟨#[]⟩, .int .i64 0] rfl rfl B3.out rfl info_head z5_one ?_; intro W hb hk) | fail)
      have KF : Kp (fun k => k = ge) w W := K3.out.trans_new hk (fun b e => .inl (by omega))
      have EF := E3.out.kp hk (fun e => hne e)

      rw [HV.out, HI.out]
      refine bodyPost_ret (v := .tuple #[.agg #[.int .u64 0, .int .u64 0, .int .i64 0, .string ⟨#[]⟩, .int .i64 0], .bool false]) ?_ rfl ⟨rfl, EF, KF⟩
      exact results_two tell_results _ _ w.heap.size 84 _ (0, 0) _ rfl hb Tryz.underlying84 rfl info_head

    · have hx : d.readS at_ = (d.nowAt at_, 0) := by simp [Dm.readS, hpw, hsb]
      have hl5 : (d.nowAt at_).length = 512 := nowAt_length ok at_ hlt
      have HTV := Lib.hid (show tellV d at_ = headV (d.nowAt at_) at_ by rw [tellV, hpw]; rfl)
      have HI := Lib.hid (show tellE d at_ = 0 by simp [tellE, hpw])
      obtain ⟨l, hl⟩ : ∃ l, d.nowAt at_ = l := ⟨_, rfl⟩
      rw [hl] at hx hl5 HTV
      have HL5 := Lib.hid hl5
      clear ok hsb hpw hl hl5
      have B0 := Lib.hid (Box.new w 84 #[.int .u64 0, .int .u64 0, .int .i64 0, .string ⟨#[]⟩, .int .i64 0])
      have K0 := Lib.hid ((Kp.refl (fun _ => False) w).alloc (.cells #[.int .u64 0, .int .u64 0, .int .i64 0, .string ⟨#[]⟩, .int .i64 0] 84))
      have E0 := Lib.hid (he.alloc (.cells #[.int .u64 0, .int .u64 0, .int .i64 0, .string ⟨#[]⟩, .int .i64 0] 84))
      have P0 := Lib.hid (hp.alloc (.cells #[.int .u64 0, .int .u64 0, .int .i64 0, .string ⟨#[]⟩, .int .i64 0] 84))
      have D0 := Lib.hid (hD.still ((Kp.refl (fun _ => False) w).alloc (.cells #[.int .u64 0, .int .u64 0, .int .i64 0, .string ⟨#[]⟩, .int .i64 0] 84)))
      have hne : ge ≠ w.heap.size := by have := he.lt; omega
      have HT := Lib.hid ht
      clear hD ht he hp
      go_enter Tryz.func63, Tryz.ntmps63
      go_upto_region 1 with fail
      generalize w.alloc (.cells #[.int .u64 0, .int .u64 0, .int .i64 0, .string ⟨#[]⟩, .int .i64 0] 84) = w0 at *
      have c0 := E0.out.cell 0
      have p0 := P0.out.cell 0
      simp at c0 p0
      go_wp2_with fail
      refine (len_any D0.out).mono ?_
      rintro e w1 ⟨rfl, rfl⟩
      have hrd := read_any D0.out at_
      rw [hx] at hrd
      dsimp only at hrd
      rw [HL5.out] at hrd
      clear hx
      go_wp2_with fail
      refine hrd.mono ?_
      clear hrd c0 p0
      rintro e w1 ⟨A, rfl, hr, hk⟩
      have B1 := Lib.hid (B0.out.kp hk (fun e => e))
      have E1 := Lib.hid (E0.out.kp hk (fun e => e))
      have K1 := Lib.hid (K0.out.trans hk)
      have R1 := Lib.hid hr
      clear hr hk
      have c0 := E1.out.cell 0
      have f0 := E1.out.free 0
      simp at c0
      have E2 := Lib.hid (E1.out.put 0 (.int .i64 0))
      have B2 := Lib.hid (B1.out.far (p := ⟨ge, 0, none⟩) (fun e => hne e.symm) (.int .i64 0))
      have K2 := Lib.hid (Kp.setCell (S := fun k => k = ge) (p := ⟨ge, 0, none⟩) (K1.out.mono (fun _ _ e => e.elim)) (.inr rfl) (.int .i64 0))
      have hrk := R1.out.kp_box (w' := w1.setCell ⟨ge, 0, none⟩ (.int .i64 0)) (Kp.one w1 ge 0 (.int .i64 0)) E1.out (by intro i u; cases i with | zero => simp | succ i => simp)
      have R2 := Lib.hid hrk
      clear hrk
      go_upto_region 5 with fail
      generalize w1.setCell ⟨ge, 0, none⟩ (.int .i64 0) = w2 at *
      clear c0 f0
      go_wp2_with fail
      refine (headOf_any A 512 512 l at_ w2 R2.out (HT.out.kp K2.out (fun e => hge.symm e)) HL5.out (.inl rfl)).mono ?_
      rintro e w3 ⟨rfl, hk⟩
      have B3 := Lib.hid (B2.out.kp hk (fun e => e))
      have E3 := Lib.hid (E2.out.kp hk (fun e => e))
      have K3 := Lib.hid (K2.out.trans (hk.mono (fun _ _ e => e.elim)))
      clear hk

      rcases hh : headS l with _ | h
      · rw [headV_none hh]
        have HV := Lib.hid (HTV.out.trans (headV_none hh))
        clear hh
        go_wp2_with (first | (refine wpList_store_box rfl 84 (.tmp 4) (.tmp 25) rfl w.heap.size [.int .u64 0, .int .u64 0, .int .i64 0, .string ⟨#[]⟩, .int .i64 0] rfl rfl B3.out rfl info_head z5_one ?_; intro W hb hk) | fail)
        have KF : Kp (fun k => k = ge) w W := K3.out.trans_new hk (fun b e => .inl (by omega))
        have EF := E3.out.kp hk (fun e => hne e)

        rw [HV.out, HI.out]
        refine bodyPost_ret (v := .tuple #[.agg #[.int .u64 0, .int .u64 0, .int .i64 0, .string ⟨#[]⟩, .int .i64 0], .bool false]) ?_ rfl ⟨rfl, EF, KF⟩
        exact results_two tell_results _ _ w.heap.size 84 _ (0, 0) _ rfl hb Tryz.underlying84 rfl info_head

      · rw [headV_some hh]
        have HV := Lib.hid (HTV.out.trans (headV_some hh))
        clear hh
        go_wp2_with (first | (refine wpList_store_box rfl 84 (.tmp 4) (.tmp 25) rfl w.heap.size (hcs h at_) rfl rfl B3.out rfl info_head (hcs_one h at_) ?_; intro W hb hk) | fail)
        have KF : Kp (fun k => k = ge) w W := K3.out.trans_new hk (fun b e => .inl (by omega))
        have EF := E3.out.kp hk (fun e => hne e)

        rw [HV.out, HI.out]
        refine bodyPost_ret (v := .tuple #[.agg (hcs h at_).toArray, .bool true]) ?_ rfl ⟨rfl, EF, KF⟩
        exact results_two tell_results _ _ w.heap.size 84 _ (0, 0) _ rfl hb Tryz.underlying84 rfl info_head

  · have hd1 : decide (d.on.length ≤ at_) = true := by simp; omega
    have hl : (if d.power then d.nowAt at_ else []) = [] := by split <;> simp [nowAt_far ok at_ (by omega)]
    have HV := Lib.hid (show tellV d at_ = .tuple #[.agg #[.int .u64 0, .int .u64 0, .int .i64 0, .string ⟨#[]⟩, .int .i64 0], .bool false] by rw [tellV, hl]; exact headV_none headS_nil)
    have HI := Lib.hid (show tellE d at_ = 0 by simp [tellE, hlt])
    clear ok hl hlt
    have B0 := Lib.hid (Box.new w 84 #[.int .u64 0, .int .u64 0, .int .i64 0, .string ⟨#[]⟩, .int .i64 0])
    have K0 := Lib.hid ((Kp.refl (fun _ => False) w).alloc (.cells #[.int .u64 0, .int .u64 0, .int .i64 0, .string ⟨#[]⟩, .int .i64 0] 84))
    have E0 := Lib.hid (he.alloc (.cells #[.int .u64 0, .int .u64 0, .int .i64 0, .string ⟨#[]⟩, .int .i64 0] 84))
    have P0 := Lib.hid (hp.alloc (.cells #[.int .u64 0, .int .u64 0, .int .i64 0, .string ⟨#[]⟩, .int .i64 0] 84))
    have D0 := Lib.hid (hD.still ((Kp.refl (fun _ => False) w).alloc (.cells #[.int .u64 0, .int .u64 0, .int .i64 0, .string ⟨#[]⟩, .int .i64 0] 84)))
    have hne : ge ≠ w.heap.size := by have := he.lt; omega
    have HT := Lib.hid ht
    clear hD ht he hp
    go_enter Tryz.func63, Tryz.ntmps63
    go_upto_region 1 with fail
    generalize w.alloc (.cells #[.int .u64 0, .int .u64 0, .int .i64 0, .string ⟨#[]⟩, .int .i64 0] 84) = w0 at *
    have c0 := E0.out.cell 0
    have p0 := P0.out.cell 0
    simp at c0 p0
    go_wp2_with fail
    refine (len_any D0.out).mono ?_
    rintro e w1 ⟨rfl, rfl⟩

    go_wp2_with (first | (refine wpList_store_box rfl 84 (.tmp 4) (.tmp 15) rfl w.heap.size [.int .u64 0, .int .u64 0, .int .i64 0, .string ⟨#[]⟩, .int .i64 0] rfl rfl B0.out rfl info_head z5_one ?_; intro W hb hk) | fail)
    have KF : Kp (fun k => k = ge) w W := (K0.out.mono (fun _ _ e => e.elim)).trans_new hk (fun b e => .inl (by omega))
    have EF := E0.out.kp hk (fun e => hne e)
    rw [HV.out, HI.out]
    refine bodyPost_ret (v := .tuple #[.agg #[.int .u64 0, .int .u64 0, .int .i64 0, .string ⟨#[]⟩, .int .i64 0], .bool false]) ?_ rfl ⟨rfl, EF, KF⟩
    exact results_two tell_results _ _ w.heap.size 84 _ (0, 0) _ rfl hb Tryz.underlying84 rfl info_head

set_option maxRecDepth 100000 in
set_option maxHeartbeats 2000000 in
/-- Once something failed nothing is told. -/
theorem tell_failed (ge gp : Nat) (he : Box w ge 47 #[.int .i64 4]) (at_ : Nat) :
    Calls Tryz.prog 63 #[.int .i64 at_, .pointer (some ⟨ge, 0, none⟩), .pointer (some ⟨gp, 0, none⟩)] w fun e w' => e = .returned (.tuple #[.agg #[.int .u64 0, .int .u64 0, .int .i64 0, .string ⟨#[]⟩, .int .i64 0], .bool false]) ∧ Kp (fun _ => False) w w' := by
  have B0 := Lib.hid (Box.new w 84 #[.int .u64 0, .int .u64 0, .int .i64 0, .string ⟨#[]⟩, .int .i64 0])
  have K0 := Lib.hid ((Kp.refl (fun _ => False) w).alloc (.cells #[.int .u64 0, .int .u64 0, .int .i64 0, .string ⟨#[]⟩, .int .i64 0] 84))
  have E0 := Lib.hid (he.alloc (.cells #[.int .u64 0, .int .u64 0, .int .i64 0, .string ⟨#[]⟩, .int .i64 0] 84))
  clear he
  go_enter Tryz.func63, Tryz.ntmps63
  go_upto_region 1 with fail
  generalize w.alloc (.cells #[.int .u64 0, .int .u64 0, .int .i64 0, .string ⟨#[]⟩, .int .i64 0] 84) = w0 at *
  have c0 := E0.out.cell 0
  simp at c0
  go_wp2_with (first | (refine wpList_store_box rfl 84 (.tmp 4) (.tmp 15) rfl w.heap.size [.int .u64 0, .int .u64 0, .int .i64 0, .string ⟨#[]⟩, .int .i64 0] rfl rfl B0.out rfl info_head z5_one ?_; intro W hb hk) | fail)
  have KF : Kp (fun _ => False) w W := K0.out.trans_new hk (fun b e => .inl (by omega))
  refine bodyPost_ret (v := .tuple #[.agg #[.int .u64 0, .int .u64 0, .int .i64 0, .string ⟨#[]⟩, .int .i64 0], .bool false]) ?_ rfl ⟨rfl, KF⟩
  exact results_two tell_results _ _ w.heap.size 84 _ (0, 0) _ rfl hb Tryz.underlying84 rfl info_head

end
end Go.Proofs.YtfcljcikajaedaaGreatDoor
