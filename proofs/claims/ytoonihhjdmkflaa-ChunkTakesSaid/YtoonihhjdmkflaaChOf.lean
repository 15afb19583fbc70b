/- A chunk copied. Condition: at most 1000 children. -/
import Derived.Test.YtoonihhjdmkflaaChSame
namespace Go.Proofs.Ytoonihhjdmkflaa
open Go.RowKit

theorem zRKid : ZeroN Try.prog 58 36 := by unfold ZeroN; kernel_rfl
theorem kids_take {l : List Kd} {k : Nat} {x : Kd} (hx : l[k]? = some x) : l.take (k + 1) = l.take k ++ [x] := by
  have hlt : k < l.length := (List.getElem?_eq_some_iff.1 hx).1
  rw [take_snoc _ _ hlt]
  rw [List.getElem?_eq_getElem hlt] at hx
  cases hx
  rfl
def OfEnd (c : Ck) (w : World) (e : Ending) (w' : World) : Prop := ∃ A n, e = .returned (.agg (ccs c A n)) ∧ CkR w' c A n ∧ Kp (fun _ => False) w w'
set_option maxRecDepth 100000 in
set_option maxHeartbeats 8000000 in
theorem of_ck (c : Ck) (A : Option Addr) (n : Nat) (w : World) (h : CkR w c A n) (h1000 : c.kids.length ≤ 1000) :
    Calls Try.prog 9 #[.agg (ccs c A n)] w (OfEnd c w) := by
  have Hr : Hid (Try.f9.results = #[.cell 2 25]) := Lib.hid (by kernel_rfl)
  obtain ⟨iK, zK, i1, i2, i3, i4, i5⟩ := infoKid
  obtain ⟨W, hW, b0, b1, k0⟩ : ∃ W, W = (w.alloc (.cells (ccs c A n) 32)).alloc (.cells (ccs ck0 none 0) 25) ∧ Box W w.heap.size 32 (ccs c A n) ∧ Box W (w.heap.size + 1) 25 (ccs ck0 none 0) ∧ Kp (fun _ => False) w W := ⟨_, rfl, (Box.new w _ _).alloc _, by simpa using Box.new (w.alloc (.cells (ccs c A n) 32)) 25 (ccs ck0 none 0), ((Kp.refl _ w).alloc _).alloc _⟩
  have HW := Lib.hid hW
  have K0 := Lib.hid k0
  have HF : Hid (∀ v, Kp (fun _ => False) W v → CkR v c A n ∧ Box v (w.heap.size + 1) 25 (ccs ck0 none 0) ∧ v.cell? ⟨w.heap.size, 0, none⟩ = some (.int .u8 c.kind) ∧ v.cell? ⟨w.heap.size, 1, none⟩ = some (.string c.data) ∧ v.cell? ⟨w.heap.size, 2, none⟩ = some (.slice A c.kids.length n)) := Lib.hid fun v hv =>
    ⟨h.still (k0.trans hv), b1.kp hv (fun h => h), (b0.kp hv (fun h => h)).cell 0, (b0.kp hv (fun h => h)).cell 1, (b0.kp hv (fun h => h)).cell 2⟩
  have HO := Lib.hid h.ok
  have HWS : Hid (w.heap.size + 1 < W.heap.size) := Lib.hid b1.lt
  clear hW b0 b1 k0 h
  obtain ⟨_, _, y0, y1, y2⟩ := HF.out W (Kp.refl _ _)
  go_enter Try.func9, Try.ntmps9
  go_upto_region 1 with fail
  rw [zero_ck]
  rw [← HW.out]
  clear y2
  go_upto_region 3 with (first | (refine wpList_new rfl rfl 25 rfl (.tmp 3) (.tmp 10) rfl zCk [.int .u8 c.kind, .string c.data, .slice none 0 0] rfl (fun _ => rfl) (fun _ => rfl) (ccs_one ⟨c.kind, c.data, []⟩ none 0) ?_; intro w3 g hg3 hb3 hk3; have HK3 := Lib.hid hk3; have HG3 := Lib.hid hg3; have HB3 := Lib.hid hb3; clear hk3 hg3 hb3) | fail)
  clear y0 y1
  go_loopw [4] (fun s4 wr => ∃ k : Nat, ∃ vs : Value, k ≤ c.kids.length ∧ s4 = .int .i64 k ∧ Cg 25 46 W.heap.size wr g c.kind c.data vs (c.kids.take k) ∧ Kp (fun _ => False) W wr) (fun s4 _ => c.kids.length - (Go.RowKit.intOf s4).toNat)
  case atStart => exact ⟨0, .slice none 0 0, Nat.zero_le _, rfl, by simpa using Cg.new _ _ (by decide) HB3.out HG3.out, HK3.out⟩
  case round =>
    obtain ⟨k, vs, hk, rfl, hc, hkp⟩ := hrel
    have CR := Lib.hid hc
    have KP := Lib.hid hkp
    clear hc hkp
    obtain ⟨hck, hbr, y0, y1, y2⟩ := HF.out wr KP.out
    clear y0 y1
    by_cases hlt : k < c.kids.length
    · obtain ⟨x, hx⟩ : ∃ x, c.kids[k]? = some x := ⟨_, List.getElem?_eq_getElem hlt⟩
      obtain ⟨b, o, hA, hrg⟩ := hck.k.at hx
      have XO := Lib.hid (HO.out.2 x (List.mem_of_getElem? hx))
      obtain ⟨p, hp⟩ : ∃ p, o + k * 36 = p := ⟨_, rfl⟩
      rw [show o + 36 * k = p by omega] at hrg
      have RG := Lib.hid hrg
      have HX := Lib.hid hx
      have HTK := Lib.hid (kids_take hx)
      have HTL : Hid ((c.kids.take k).length = k) := Lib.hid (by rw [List.length_take]; omega)
      obtain ⟨ks, hks⟩ : ∃ ks, ks = c.kids.take k := ⟨_, rfl⟩
      rw [← hks] at CR HTK HTL
      have HB5 := Lib.hid (built_kid5 x XO.out)
      rw [hA] at y2
      clear hrg hx hck hbr hks hA
      have yv := CR.out.box.cell 2
      go_upto_region 6 with (first | (refine wpList_load_mid rfl 58 (.tmp 21) rfl b p rfl (kcs x) _ RG.out Try.underlying58 rfl (by rw [kcs_len XO.out]; kernel_rfl) ?_) | (refine wpList_new rfl rfl 58 rfl (.tmp 5) (.tmp 22) rfl zRKid (kcs x) (kcs_len XO.out) (fun _ => rfl) (fun _ => rfl) (kcs_one x) ?_; intro w4 g4 hg4 hb4 hk4; have HB4 := Lib.hid hb4; have C4 := Lib.hid (CR.out.still hk4); have K4 := Lib.hid (KP.out.trans hk4); clear hk4 hg4 hb4) | fail)
      clear yv y2
      obtain ⟨x0, x1, x2, x3, xh⟩ := kid_cells HB4.out.range' XO.out
      simp only [Nat.zero_add] at x0 x1 x2 x3 xh
      have XH := Lib.hid xh
      have yv : w4.cell? ⟨g, 2, none⟩ = some vs := C4.out.box.cell 2
      clear xh
      go_wp2_with (first | (refine wpList_load_mid rfl 43 (.tmp 29) rfl g4 2 rfl (bcs x.hash) _ XH.out Try.underlying43 rfl (by rw [bcs_length, XO.out.1]; kernel_rfl) ?_) | (refine wpList_build rfl 46 _ rfl (kcs x).toArray HB5.out ?_) | (refine wpList_slice1 rfl 23 46 (.tmp 35) rfl Try.underlying23 zKid (by decide) (by decide) (kcs x) rfl (kcs_len XO.out) ?_; intro w5 g5 hg5 hb5 hk5 _; have HB6 := Lib.hid hb5; have C5 := Lib.hid (C4.out.still hk5); have K5 := Lib.hid (K4.out.trans hk5); clear hk5 hg5 hb5 x0 x1 x2 x3 yv) | (refine wpList_append_at rfl (.tmp 24) (.tmp 36) 23 rfl 0 46 iK zK 36 56 Try.underlying23 i1 i2 i3 i4 i5 (by decide) vs _ (kss ks) rfl C5.out.row ⟨g5, 0, none⟩ 1 1 (kcs x) rfl (by rw [kcs_len XO.out]) (fun j u hu => World.news_of_block HB6.out j u (by simpa using hu)) (kcs_one x) (by have := HTL.out; unfold maxLen; omega) (by have := HTL.out; omega) (Nat.zero_le _) ?_; intro v6 w6 hown hgr hat; obtain ⟨A6, c6, hv6⟩ := own_shapeN hown; have HV6 := Lib.hid hv6; have hap := C5.out.app (by have := K5.out.size; omega) x XO.out hown hgr hat; have HAP := Lib.hid hap; have hbx := C5.out.box.kp (grown_kp hgr) C5.out.bg; have yv := hbx.cell 2; have yf := hbx.free 2; simp at yv; clear hown hgr hat hap hv6 hbx; rw [HV6.out]) | fail)
      rw [← HV6.out]
      obtain ⟨hc7, hk7, _⟩ := HAP.out
      have C7 := Lib.hid hc7
      have K7 : Hid (Kp (fun _ => False) W (w6.setCell ⟨g, 2, none⟩ v6)) := Lib.hid (K5.out.trans_new hk7 (fun q e => .inl (C5.out.ge q e)))
      clear hc7 hk7 yv yf
      go_wp2_with fail
      go_roundw
      case rel => exact ⟨k + 1, v6, by omega, by go_num, by rw [HTK.out]; exact C7.out, K7.out⟩
      case measure => simp [Go.RowKit.intOf]; omega
    · obtain rfl : k = c.kids.length := by omega
      have CE : Hid (Cg 25 46 W.heap.size wr g c.kind c.data vs c.kids) := Lib.hid (by have := CR.out; rwa [List.take_length] at this)
      obtain ⟨A9, n9, hcs, hck9⟩ := CE.out.chunk HO.out.1
      have HCK := Lib.hid hck9
      have HBR : Hid (Box wr g 25 (ccs c A9 n9)) := Lib.hid (hcs ▸ CE.out.box)
      have HBQ := Lib.hid hbr
      clear hcs hck9 hck hbr hlt hk
      go_wp2_with (first | (refine wpList_load_mid rfl 25 (.tmp 3) rfl g 0 rfl (ccs c A9 n9).toList _ HBR.out.range Try.underlying25 rfl (by kernel_rfl) ?_) | (refine nstore_box rfl 25 (.tmp 2) (.tmp 39) rfl (w.heap.size + 1) (ccs c A9 n9).toList rfl rfl HBQ.out rfl (by kernel_rfl) (ccs_one _ _ _) ?_; intro w8 hb8 hk8; have HB8 := Lib.hid hb8; have HK8 := Lib.hid hk8; clear hb8 hk8) | fail)
      refine bodyPost_ret (v := .agg (ccs c A9 n9)) ?_ rfl ?_
      · exact results_cell_row Hr.out _ _ (w.heap.size + 1) 25 _ (0, 0) _ rfl HB8.out Try.underlying25 rfl (by kernel_rfl)
      · exact ⟨A9, n9, rfl, ⟨HCK.out.k.far HK8.out HBQ.out (ccs_no _ _ _), HCK.out.ok, HCK.out.le, HCK.out.mx⟩, (K0.out.trans KP.out).trans_new HK8.out (fun q e => .inl (by omega))⟩
end Go.Proofs.Ytoonihhjdmkflaa
