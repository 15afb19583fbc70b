/- What record.next answers where a record stands: that record. No condition but that. -/
import Derived.Test.YtcgfnfejacgaeaaDoorRcBld
import Derived.Test.YtcgfnfejacgaeaaDoorRcPut
import Derived.Test.YtcgfnfejacgaeaaDoorOCalls
namespace Go.Proofs.YtcgfnfejacgaeaaDoor
open Go.RowKit

theorem next_res : Tryd.f43.results = #[.cell 4 49, .tmp 5] := by kernel_rfl
theorem rcL_take (r : Rc) (rest : List UInt8) (h : r.Ok) : 32 ≤ (rcL r ++ rest).length ∧ (rcL r ++ rest).take 32 = r.hash ∧ (rcL r ++ rest).drop 32 = beN 2 r.data.length ++ (r.data ++ rest) := by
  have e : rcL r ++ rest = r.hash ++ (beN 2 r.data.length ++ (r.data ++ rest)) := by simp [rcL]
  have hh := h.1
  refine ⟨by rw [e, List.length_append]; omega, ?_, ?_⟩
  · rw [e, List.take_append_of_le_length (by omega), List.take_of_length_le (by omega)]
  · rw [e, List.drop_append_of_le_length (by omega), List.drop_eq_nil_of_le (by omega)]
    rfl
/-- The reader under way: the opener, the result's variable, the record's. -/
structure Nu (G : Nat → Prop) (w v : World) (b g a : Nat) (l h : List UInt8) (s : ByteArray) : Prop where
  o : Opn G v b l none
  r : Box v w.heap.size 49 (rcv 0 z32 e0).toArray
  x : Box v g 49 (rcv a h s).toArray
  kp : Kp (fun k => k = b) w v
  lt : b < w.heap.size
  gt : w.heap.size < g
  hh : h.length = 32
  go : ∀ k, G k → k < w.heap.size
theorem Nu.call {G : Nat → Prop} {w v v' : World} {b g a : Nat} {l l' h : List UInt8} {s : ByteArray} (u : Nu G w v b g a l h s) (ho : Opn G v' b l' none) (hk : Kp (fun k => k = b) v v') : Nu G w v' b g a l' h s :=
  ⟨ho, u.r.kp hk (fun e => by have := u.lt; omega), u.x.kp hk (fun e => by have := u.lt; have := u.gt; omega), u.kp.trans hk, u.lt, u.gt, u.hh, u.go⟩
set_option maxRecDepth 100000 in
set_option maxHeartbeats 4000000 in
theorem next_any {G : Nat → Prop} {w : World} {b : Nat} (r : Rc) (rest : List UInt8) (a : Nat) (h : Opn G w b (rcL r ++ rest) none) (hr : r.Ok) :
    Calls Tryd.prog 43 #[.pointer (some ⟨b, 0, none⟩), .int .i64 a] w fun e w' => e = .returned (.tuple #[.agg (rcv a r.hash ⟨r.data.toArray⟩).toArray, .int .i64 0]) ∧ Opn G w' b rest none ∧ Kp (fun k => k = b) w w' := by
  obtain ⟨hl, ht, hd⟩ := rcL_take r rest hr
  obtain ⟨hs, dt⟩ := r
  obtain ⟨hh, hdl⟩ := hr
  simp only at hh hdl ht hd ⊢
  obtain ⟨W, hW, b4, k0⟩ : ∃ W, W = w.alloc (.cells (rcv 0 z32 e0).toArray 49) ∧ Box W w.heap.size 49 (rcv 0 z32 e0).toArray ∧ Kp (fun _ => False) w W := ⟨_, rfl, Box.new w _ _, (Kp.refl _ w).alloc _⟩
  have HW := Lib.hid hW
  have B4 := Lib.hid b4
  have K0 := Lib.hid k0
  have O0 : Hid (Opn (fun k => G k ∧ k < w.heap.size) W b (rcL ⟨hs, dt⟩ ++ rest) none) := Lib.hid (h.old.kp k0 (fun _ _ e => e))
  have HBL : Hid (b < w.heap.size) := Lib.hid h.old.1.2
  have HL := Lib.hid hl
  have HT := Lib.hid ht
  have HD := Lib.hid hd
  have HH := Lib.hid hh
  have hwn : IntKind.i64.wrap (dt.length : Int) = (dt.length : Int) := IntWalk.i64_in _ (by omega)
  have HN : Hid (numN ((beN 2 dt.length ++ (dt ++ rest)).take 2) = dt.length) := Lib.hid (by
    rw [List.take_append_of_le_length (by rw [beN_length]; exact Nat.le_refl _), List.take_of_length_le (by rw [beN_length]; exact Nat.le_refl _)]
    exact numN_beN 2 _ (by omega))
  have HX : Hid ((beN 2 dt.length ++ (dt ++ rest)).drop 2 = dt ++ rest) := Lib.hid (by
    rw [List.drop_append_of_le_length (by rw [beN_length]; exact Nat.le_refl _), List.drop_eq_nil_of_le (by rw [beN_length]; exact Nat.le_refl _)]
    rfl)
  have hmay := fun v => mayData_any dt.length v
  rw [show decide (dt.length ≤ 2014) = true by simpa using hdl] at hmay
  have HMAY := Lib.hid hmay
  obtain ⟨n, hn⟩ : ∃ n, n = dt.length := ⟨_, rfl⟩
  have HNN := Lib.hid hn
  have HBT := built2 a hs hh
  rw [← hn] at hwn HMAY HN HX HD
  clear hW b4 k0 h hl ht hd hh hmay hdl hn
  go_enter Tryd.func43, Tryd.ntmps43
  go_upto_region 1 with fail
  rw [zero_rc, ← HW.out]
  go_wp2_with fail
  refine (ohash_fine O0.out HL.out).mono ?_
  rintro e w1 ⟨rfl, ho, hk⟩
  rw [HT.out]
  rw [HD.out] at ho
  have O1 := Lib.hid ho
  have B41 := Lib.hid (B4.out.kp hk (fun e => by have := HBL.out; omega))
  have K1 : Hid (Kp (fun k => k = b) w w1) := Lib.hid ((K0.out.mono fun _ _ e => e.elim).trans hk)
  clear ho hk
  go_upto_region 2 with (first | (refine wpList_build rfl 49 _ rfl (rcv a hs e0).toArray HBT ?_) | (refine wpList_new rfl rfl 49 rfl (.tmp 6) (.tmp 11) rfl zRec (rcv a hs e0) (rcv_len HH.out) (fun _ => rfl) (fun _ => rfl) (rcv_one _ _ _) ?_; intro w2 g hg2 hb2 hk2; have HG2 := Lib.hid hg2; have HB2 := Lib.hid hb2; have HK2 := Lib.hid hk2; clear hg2 hb2 hk2) | fail)
  have U2 : Hid (Nu (fun k => G k ∧ k < w.heap.size) w w2 b g a (beN 2 n ++ (dt ++ rest)) hs e0) := Lib.hid ⟨O1.out.kp HK2.out (fun _ _ e => e), B41.out.kp HK2.out (fun e => e), HB2.out, K1.out.trans (HK2.out.mono fun _ _ e => e.elim), HBL.out, by have := HG2.out; have := B41.out.lt; omega, HH.out, fun _ e => e.2⟩
  clear HBT HK2 HB2 HG2 B41 K1 O1
  go_wp2_with fail
  have hc := take_fine U2.out.o 2 rfl (by rw [List.length_append, beN_length]; omega)
  rw [HN.out, HX.out] at hc
  refine hc.mono ?_
  clear hc
  rintro e w3 ⟨rfl, ho, hk⟩
  have U3 := Lib.hid (U2.out.call ho hk)
  clear ho hk
  go_wp2_with fail
  have hc := otext_fine U3.out.o n (by rw [HNN.out, List.length_append]; omega)
  rw [show (dt ++ rest).take n = dt by rw [HNN.out]; exact List.take_left' rfl, show (dt ++ rest).drop n = rest by rw [HNN.out]; exact List.drop_left' rfl] at hc
  refine hc.mono ?_
  clear hc
  rintro e w4 ⟨rfl, ho, hk⟩
  have U4 := Lib.hid (U3.out.call ho hk)
  clear ho hk
  obtain ⟨d, hd⟩ : ∃ d : ByteArray, d = ⟨dt.toArray⟩ := ⟨_, rfl⟩
  rw [← hd]
  have HDD := Lib.hid hd
  clear hd
  have y : w4.cell? ⟨g, 33, none⟩ = some (.string e0) := by rw [U4.out.x.cell, List.getElem?_toArray]; exact rcv_data U4.out.hh
  have yf : w4.frozen? ⟨g, 33, none⟩ = false := U4.out.x.free 33
  go_upto_region 4 with fail
  obtain ⟨w5, hw5⟩ : ∃ v, v = w4.setCell ⟨g, 33, none⟩ (.string d) := ⟨_, rfl⟩
  have k5 : Kp (fun k => k = g) w4 w5 := by rw [hw5]; exact Kp.one _ _ _ _
  have U5 : Hid (Nu (fun k => G k ∧ k < w.heap.size) w w5 b g a rest hs d) := Lib.hid ⟨U4.out.o.kp k5 (fun k e x => by have := U4.out.gt; have := U4.out.go k e; omega), U4.out.r.kp k5 (fun e => by have := U4.out.gt; omega), by rw [hw5, ← rcv_set (s := e0) U4.out.hh]; exact U4.out.x.put 33 _, U4.out.kp.trans_new k5 (fun _ e => .inl (by have := U4.out.gt; omega)), U4.out.lt, U4.out.gt, U4.out.hh, U4.out.go⟩
  rw [← hw5]
  clear hw5 k5 y yf
  go_wp2_with fail
  refine (err_fine U5.out.o).mono ?_
  rintro e w6 ⟨rfl, ho, hk⟩
  have U6 := Lib.hid (U5.out.call ho hk)
  clear ho hk
  go_wp2_with fail
  refine (HMAY.out w6).mono ?_
  rintro e w7 ⟨rfl, rfl⟩
  go_wp2_with (first | (refine wpList_load_mid rfl 49 (.tmp 6) rfl g 0 rfl (rcv a hs d) _ U6.out.x.range' Tryd.underlying49 rfl (by rw [rcv_len HH.out]; exact info_rec) ?_) | (refine nstore_box rfl 49 (.tmp 4) (.tmp 28) rfl w.heap.size (rcv a hs d) rfl rfl U6.out.r (by rw [List.size_toArray, rcv_len z32_len, rcv_len HH.out]) (by rw [rcv_len HH.out]; exact info_rec) (rcv_one _ _ _) ?_; intro w8 hb8 hk8; have HB8 := Lib.hid hb8; have HK8 := Lib.hid hk8; clear hb8 hk8) | fail)
  refine bodyPost_ret (v := .tuple #[.agg (rcv a hs d).toArray, .int .i64 0]) ?_ rfl ?_
  · exact nresults_two next_res _ _ w.heap.size 49 _ (0, 0) _ rfl HB8.out Tryd.underlying49 rfl (by rw [List.size_toArray, rcv_len HH.out]; exact info_rec)
  · exact ⟨by rw [HDD.out], (U6.out.o.kp HK8.out (fun k e x => by have := U6.out.go k e; omega)).mono (fun k e => e.1), U6.out.kp.trans_new HK8.out (fun _ e => .inl (by omega))⟩
end Go.Proofs.YtcgfnfejacgaeaaDoor
