/- What the opener's generic reader answers at hashes, which are arrays and live in blocks of their own. -/
import Derived.Test.YtcgfnfejacgaeaaDoorRead
import Derived.Deep.Cut
namespace Go.Proofs.YtcgfnfejacgaeaaDoor
open Go.RowKit

theorem Kp.setRow {S : Nat → Prop} {w w' : World} (h : Kp S w w') {g : Nat} (hp : w.heap.size ≤ g ∨ S g) (cs : Array Value) : Kp S w (w'.setRow g cs) :=
  ⟨h.os, h.tape, h.output, by have := h.size; simpa using this, fun k hk hs => by
    rw [setRow_other w' g k cs (by rintro rfl; rcases hp with hp | hp; omega; exact hs hp)]
    exact h.block k hk hs⟩
theorem Box.setRow {w : World} {g : Nat} {t : TypeId} {cs : Array Value} (h : Box w g t cs) (cs' : Array Value) : Box (w.setRow g cs') g t cs' := setRow_heap w g cs cs' t (0, 0) h
def zeros32 : List UInt8 := List.replicate 32 0
theorem zeros32_length : zeros32.length = 32 := rfl
theorem zero_bcs : (#[Value.int IntKind.u8 0, Value.int IntKind.u8 0, Value.int IntKind.u8 0, Value.int IntKind.u8 0, Value.int IntKind.u8 0, Value.int IntKind.u8 0, Value.int IntKind.u8 0, Value.int IntKind.u8 0, Value.int IntKind.u8 0, Value.int IntKind.u8 0, Value.int IntKind.u8 0, Value.int IntKind.u8 0, Value.int IntKind.u8 0, Value.int IntKind.u8 0, Value.int IntKind.u8 0, Value.int IntKind.u8 0, Value.int IntKind.u8 0, Value.int IntKind.u8 0, Value.int IntKind.u8 0, Value.int IntKind.u8 0, Value.int IntKind.u8 0, Value.int IntKind.u8 0, Value.int IntKind.u8 0, Value.int IntKind.u8 0, Value.int IntKind.u8 0, Value.int IntKind.u8 0, Value.int IntKind.u8 0, Value.int IntKind.u8 0, Value.int IntKind.u8 0, Value.int IntKind.u8 0, Value.int IntKind.u8 0, Value.int IntKind.u8 0] : Array Value) = (bcs zeros32).toArray := by rfl
theorem Opn.off {G : Nat → Prop} {w : World} {b : Nat} {l : List UInt8} {f : Option Int} (h : Opn G w b l f) : Opn (fun k => G k ∧ k ≠ w.heap.size) (w.alloc (.cells #[Value.int IntKind.u8 0, Value.int IntKind.u8 0, Value.int IntKind.u8 0, Value.int IntKind.u8 0, Value.int IntKind.u8 0, Value.int IntKind.u8 0, Value.int IntKind.u8 0, Value.int IntKind.u8 0, Value.int IntKind.u8 0, Value.int IntKind.u8 0, Value.int IntKind.u8 0, Value.int IntKind.u8 0, Value.int IntKind.u8 0, Value.int IntKind.u8 0, Value.int IntKind.u8 0, Value.int IntKind.u8 0, Value.int IntKind.u8 0, Value.int IntKind.u8 0, Value.int IntKind.u8 0, Value.int IntKind.u8 0, Value.int IntKind.u8 0, Value.int IntKind.u8 0, Value.int IntKind.u8 0, Value.int IntKind.u8 0, Value.int IntKind.u8 0, Value.int IntKind.u8 0, Value.int IntKind.u8 0, Value.int IntKind.u8 0, Value.int IntKind.u8 0, Value.int IntKind.u8 0, Value.int IntKind.u8 0, Value.int IntKind.u8 0] 44)) b l f :=
  (h.old.mono fun k hk => ⟨hk.1, by have := hk.2; omega⟩).kp ((Kp.refl (fun _ => False) w).alloc _) (fun _ _ h => h)
theorem Opn.on {G : Nat → Prop} {w w' : World} {b g : Nat} {l : List UInt8} {f : Option Int} (h : Opn (fun k => G k ∧ k ≠ g) w b l f) (hk : Kp (fun k => k = g) w w') : Opn G w' b l f :=
  (h.kp hk fun _ hk => hk.2).mono fun _ hk => hk.1
theorem Kp.laid (w : World) (o : Obj) (g : Nat) (cs : Array Value) : Kp (fun k => k = g) w ((w.alloc o).setRow g cs) := ((Kp.refl (fun k => k = g) w).alloc o).setRow (.inr rfl) cs

set_option maxHeartbeats 400000 in
theorem read_hash_fine {G : Nat → Prop} {w : World} {b : Nat} {l : List UInt8} (h : Opn G w b l none) (hn : 32 ≤ l.length) :
    Calls Tryd.prog 60 #[.pointer (some ⟨b, 0, none⟩), .int .i64 32, .func (Fn.func 61) #[] #[]] w fun e w' => e = .returned (.agg (bcs (l.take 32)).toArray) ∧ Opn G w' b (l.drop 32) none ∧ Kp (fun k => k = b) w w' := by
  have hlen : (l.take 32).length = 32 := by simp; omega
  have hlt : b < w.heap.size := by obtain ⟨_, _, _, _, hx, _⟩ := h; exact hx.lt
  have h1 := h.off
  have hres : Tryd.f60.results = #[.cell 6 44] := by kernel_rfl
  have Hr := Lib.hid hres
  have Hl := Lib.hid hlen
  clear hlen hres h
  go_enter Tryd.func60, Tryd.ntmps60
  go_wp2_with fail
  rw [zero_bcs] at h1 ⊢
  have H := Lib.hid h1
  obtain ⟨_, A0, c0, fv, hx, _, _, _, _, h5⟩ := h1
  cases h5
  refine (reader_fine b _ _ hx).mono ?_
  rintro e w1 ⟨rfl, rfl⟩
  clear hx
  go_wp2_with fail
  have hnx := next_fine H.out 32 hn
  rw [show ((32 : Nat) : Int) = 32 from rfl] at hnx
  refine hnx.mono ?_
  rintro e w1 ⟨A, c, rfl, hc1, hc2, hr, _, ho, hk⟩
  have hg6 := (Box.new w 44 (bcs zeros32).toArray).kp hk (by omega)
  have Hg := Lib.hid hg6
  have Hr1 := Lib.hid hr
  have Ho := Lib.hid ho
  have Hk := Lib.hid hk
  clear hr ho hk hnx hg6
  go_wp2_with fail
  refine (hash1_rd A c (l.take 32) w1 Hr1.out Hl.out).mono ?_
  rintro e w2 ⟨rfl, rfl⟩
  have Hg2 := Lib.hid (Hg.out.alloc (.cells (bcs (l.take 32)).toArray 44))
  go_wp2_with (refine wpList_store_row rfl 44 (.tmp 6) (.tmp 22) rfl w.heap.size (bcs (l.take 32)).toArray rfl rfl 44 (bcs zeros32).toArray Hg2.out ?c1 ?c2 (bcs_all _) ?_)
  case c1 => rw [List.size_toArray, bcs_length, Hl.out]; exact info_hash
  case c2 => simp only [List.size_toArray, bcs_length, Hl.out, zeros32_length]
  refine bodyPost_ret (v := .agg (bcs (l.take 32)).toArray) ?_ rfl ⟨rfl, ?_, ?_⟩
  · exact results_cell_row Hr.out _ _ w.heap.size 44 _ (0, 0) _ rfl (Hg2.out.setRow _) Tryd.underlying44 rfl (by rw [List.size_toArray, bcs_length, Hl.out]; exact info_hash)
  · exact Ho.out.on (Kp.laid _ _ _ _)
  · have k1 : Kp (fun k => k = b) w w1 := ((Kp.refl _ _).alloc _).trans Hk.out
    exact (k1.alloc _).setRow (.inl (Nat.le_refl _)) _

set_option maxHeartbeats 400000 in
theorem read_hash_short {G : Nat → Prop} {w : World} {b : Nat} {l : List UInt8} (h : Opn G w b l none) (hG : ∀ k, w.heap.size ≤ k → G k) (hn : l.length < 32) :
    Calls Tryd.prog 60 #[.pointer (some ⟨b, 0, none⟩), .int .i64 32, .func (Fn.func 61) #[] #[]] w fun e w' => e = .returned (.agg (bcs zeros32).toArray) ∧ Opn G w' b l (some 3) ∧ Kp (fun k => k = b) w w' := by
  have h1 := h.off
  have hres : Tryd.f60.results = #[.cell 6 44] := by kernel_rfl
  have hlt : b < w.heap.size := by obtain ⟨_, _, _, _, hx, _⟩ := h; exact hx.lt
  have hG2 : G (w.alloc (.cells (bcs zeros32).toArray 44)).heap.size ∧ (w.alloc (.cells (bcs zeros32).toArray 44)).heap.size ≠ w.heap.size := ⟨hG _ (by simp), by simp⟩
  have hshort : (32 : Int) < 0 ∨ (l.length : Int) < 32 := by omega
  have Hr := Lib.hid hres
  have HG := Lib.hid hG2
  have Hs := Lib.hid hshort
  clear hres h hG hG2 hshort
  go_enter Tryd.func60, Tryd.ntmps60
  go_wp2_with fail
  rw [zero_bcs] at h1 ⊢
  have H := Lib.hid h1
  obtain ⟨_, A0, c0, fv, hx, _, _, _, _, h5⟩ := h1
  cases h5
  refine (reader_fine b _ _ hx).mono ?_
  rintro e w1 ⟨rfl, rfl⟩
  clear hx
  go_wp2_with fail
  refine (next_fails H.out HG.out 32 Hs.out).mono ?_
  rintro e w1 ⟨rfl, ho, hk⟩
  have hg6 := (Box.new w 44 (bcs zeros32).toArray).kp hk (by omega)
  have Hg2 := Lib.hid (hg6.alloc (.cells (bcs zeros32).toArray 44))
  have Ho := Lib.hid ho
  have Hk := Lib.hid hk
  clear ho hk hg6
  go_upto_region 4 with fail
  rw [zero_bcs]
  go_wp2_with (first | (refine wpList_load_row rfl 44 (.tmp 9) rfl w1.heap.size rfl 44 (bcs zeros32).toArray (0, 0) _ (heap_alloc_last w1 _) Tryd.underlying44 rfl ?d1 ?_) | (refine wpList_store_row rfl 44 (.tmp 6) (.tmp 19) rfl w.heap.size (bcs zeros32).toArray rfl rfl 44 (bcs zeros32).toArray Hg2.out ?c1 rfl (bcs_all _) ?_))
  case d1 => exact info_hash
  case c1 => exact info_hash
  refine bodyPost_ret (v := .agg (bcs zeros32).toArray) ?_ rfl ⟨rfl, ?_, ?_⟩
  · exact results_cell_row Hr.out _ _ w.heap.size 44 _ (0, 0) _ rfl (Hg2.out.setRow _) Tryd.underlying44 rfl info_hash
  · exact Ho.out.on (Kp.laid _ _ _ _)
  · have k1 : Kp (fun k => k = b) w w1 := ((Kp.refl _ _).alloc _).trans Hk.out
    exact (k1.alloc _).setRow (.inl (Nat.le_refl _)) _

set_option maxHeartbeats 400000 in
theorem read_hash_failed {G : Nat → Prop} {w : World} {b : Nat} {l : List UInt8} {e0 : Int} (h : Opn G w b l (some e0)) (he : e0 ≠ 0) :
    Calls Tryd.prog 60 #[.pointer (some ⟨b, 0, none⟩), .int .i64 32, .func (Fn.func 61) #[] #[]] w fun e w' => e = .returned (.agg (bcs zeros32).toArray) ∧ Opn G w' b l (some e0) ∧ Kp (fun k => k = b) w w' := by
  have h1 := h.off
  have hres : Tryd.f60.results = #[.cell 6 44] := by kernel_rfl
  have hne : (e0 == 0) = false := by simpa using he
  have hne2 : (e0 != 0) = true := by simpa using he
  have Hr := Lib.hid hres
  clear hres h he
  go_enter Tryd.func60, Tryd.ntmps60
  go_wp2_with fail
  rw [zero_bcs] at h1 ⊢
  have H := Lib.hid h1
  obtain ⟨_, A0, c0, fv, hx, _, _, _, _, g, rfl, _, hg⟩ := h1
  refine (reader_fails b g _ _ hx).mono ?_
  rintro e w1 ⟨rfl, rfl⟩
  clear hx
  go_wp2_with fail
  refine (failing1 g 32 e0 _ hg).mono ?_
  rintro e w1 ⟨rfl, q, hw1⟩
  clear hg
  have ho := H.out.kp (((Kp.refl (fun _ => False) _).drewN q)) (fun _ _ h => h)
  have hk := ((Kp.refl (fun k => k = b) w).alloc (.cells (bcs zeros32).toArray 44)).drewN q
  have hg6 := (Box.new w 44 (bcs zeros32).toArray).drewN q
  rw [← hw1] at ho hk hg6
  clear hw1
  have Hg2 := Lib.hid (hg6.alloc (.cells (bcs zeros32).toArray 44))
  have Ho := Lib.hid ho
  have Hk := Lib.hid hk
  clear ho hk hg6
  go_upto_region 4 with fail
  rw [zero_bcs]
  go_wp2_with (first | (refine wpList_load_row rfl 44 (.tmp 9) rfl w1.heap.size rfl 44 (bcs zeros32).toArray (0, 0) _ (heap_alloc_last w1 _) Tryd.underlying44 rfl ?d1 ?_) | (refine wpList_store_row rfl 44 (.tmp 6) (.tmp 19) rfl w.heap.size (bcs zeros32).toArray rfl rfl 44 (bcs zeros32).toArray Hg2.out ?c1 rfl (bcs_all _) ?_))
  case d1 => exact info_hash
  case c1 => exact info_hash
  refine bodyPost_ret (v := .agg (bcs zeros32).toArray) ?_ rfl ⟨rfl, ?_, ?_⟩
  · exact results_cell_row Hr.out _ _ w.heap.size 44 _ (0, 0) _ rfl (Hg2.out.setRow _) Tryd.underlying44 rfl info_hash
  · exact Ho.out.on (Kp.laid _ _ _ _)
  · exact (Hk.out.alloc _).setRow (.inl (Nat.le_refl _)) _

set_option maxHeartbeats 400000 in
theorem read_hash_nil (w : World) :
    Calls Tryd.prog 60 #[.pointer none, .int .i64 32, .func (Fn.func 61) #[] #[]] w fun e w' => e = .returned (.agg (bcs zeros32).toArray) ∧ Kp (fun _ => False) w w' := by
  have hres : Tryd.f60.results = #[.cell 6 44] := by kernel_rfl
  have Hr := Lib.hid hres
  clear hres
  go_enter Tryd.func60, Tryd.ntmps60
  go_wp2_with fail
  rw [zero_bcs]
  refine (reader_nil _).mono ?_
  rintro e w1 ⟨rfl, hw1⟩
  have hk := ((Kp.refl (fun _ => False) w).alloc (.cells (bcs zeros32).toArray 44)).alloc (.cells #[.int .i64 1] 24)
  have hg6 := (Box.new w 44 (bcs zeros32).toArray).alloc (.cells #[.int .i64 1] 24)
  have hg := Box.new (w.alloc (.cells (bcs zeros32).toArray 44)) 24 #[.int .i64 1]
  rw [show (w.alloc (.cells (bcs zeros32).toArray 44)).heap.size = w.heap.size + 1 from by simp] at hg
  rw [hw1] at hk hg6 hg
  clear hw1
  have Hg := Lib.hid hg
  have Hg6 := Lib.hid hg6
  have Hk := Lib.hid hk
  clear hg hk hg6
  go_wp2_with fail
  refine (failing1 _ 32 1 _ Hg.out).mono ?_
  rintro e w2 ⟨rfl, q, hw2⟩
  have Hg2 := Lib.hid ((Hg6.out.drewN q).alloc (.cells (bcs zeros32).toArray 44))
  have Hk2 := Lib.hid (Hk.out.drewN q)
  rw [← hw2] at Hg2 Hk2
  clear hw2
  go_upto_region 4 with fail
  rw [zero_bcs]
  go_wp2_with (first | (refine wpList_load_row rfl 44 (.tmp 9) rfl w2.heap.size rfl 44 (bcs zeros32).toArray (0, 0) _ (heap_alloc_last w2 _) Tryd.underlying44 rfl ?d1 ?_) | (refine wpList_store_row rfl 44 (.tmp 6) (.tmp 19) rfl w.heap.size (bcs zeros32).toArray rfl rfl 44 (bcs zeros32).toArray Hg2.out ?c1 rfl (bcs_all _) ?_))
  case d1 => exact info_hash
  case c1 => exact info_hash
  refine bodyPost_ret (v := .agg (bcs zeros32).toArray) ?_ rfl ⟨rfl, ?_⟩
  · exact results_cell_row Hr.out _ _ w.heap.size 44 _ (0, 0) _ rfl (Hg2.out.setRow _) Tryd.underlying44 rfl info_hash
  · exact (Hk2.out.alloc _).setRow (.inl (Nat.le_refl _)) _

end Go.Proofs.YtcgfnfejacgaeaaDoor
